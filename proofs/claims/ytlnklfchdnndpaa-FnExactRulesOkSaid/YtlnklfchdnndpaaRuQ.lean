/-
  RulesOk of both sides.
-/
import Derived.Test.YtlnklfchdnndpaaRuA
import Derived.Test.YtlnklfchdnndpaaCrE
import Derived.Test.YtlnklfchdnndpaaCrQ
import Derived.Test.YtlnklfchdnndpaaNmL
namespace Go.Proofs.Ytlnklfchdnndpaa
open Go.RowKit
set_option linter.unusedVariables false

/-- Whether rules are right. -/
def ruOk (c : Ru) : Bool := inB c.time 0 9999 && (polOk c.pol && inB c.usage 0 7)
set_option maxHeartbeats 3200000 in
set_option maxRecDepth 100000 in
theorem specRulesOk_any (c : Ru) (v : Value) (w : World) (hz : wtU c ≤ 1000000000) (ha : RuAt w v c) :
    Calls Try.prog 6 #[v] w fun e w' => e = .returned (.bool (ruOk c)) ∧ Below w.heap.size w w' := by
  obtain ⟨pv, rfl, h1⟩ := ha
  obtain ⟨pa, pc, hpa⟩ : ∃ ao cap, pv = .slice ao c.pol.length cap := by obtain ⟨ao, cap, h, _⟩ := h1; exact ⟨ao, cap, h⟩
  obtain ⟨lp, hlp⟩ : ∃ l, c.pol.length = l := ⟨_, rfl⟩
  rw [hlp] at hpa
  subst hpa
  obtain ⟨B1, hB1⟩ : ∃ b, inB c.time 0 9999 = b := ⟨_, rfl⟩
  have E1 : Hid (∀ W, Below w.heap.size w W → Calls Try.prog 16 #[.int .i64 c.time] W fun e w' => e = .returned (.bool B1) ∧ Below W.heap.size W w') := fun W hb => by rw [← hB1]; exact num_any _ W
  obtain ⟨B2, hB2⟩ : ∃ b, polOk c.pol = b := ⟨_, rfl⟩
  have E2 : Hid (∀ W, Below w.heap.size w W → Calls Try.prog 17 #[.slice pa lp pc] W fun e w' => e = .returned (.bool B2) ∧ Below W.heap.size W w') := fun W hb => by rw [← hB2]; exact specIok_any _ c.pol W hz (h1.below hb)
  obtain ⟨B3, hB3⟩ : ∃ b, inB c.usage 0 7 = b := ⟨_, rfl⟩
  have E3 : Hid (∀ W, Below w.heap.size w W → Calls Try.prog 18 #[.int .i64 c.usage, .int .i64 0, .int .i64 7] W fun e w' => e = .returned (.bool B3) ∧ Below W.heap.size W w') := fun W hb => by rw [← hB3]; exact in_any _ _ _ W
  have HC : Hid (ruOk c = (B1 && (B2 && B3))) := by show ruOk c = _; unfold ruOk; rw [hB1, hB2, hB3]
  clear hB1 hB2 hB3 h1 hlp hz
  unfold ruV
  go_enter Try.func6, Try.ntmps6
  go_wp2_with fail
  obtain ⟨V0, hV⟩ : ∃ V, V = w.alloc (Obj.cells #[.int .i64 c.time, .slice pa lp pc, .bool c.expl, .bool c.chk, .int .i64 c.usage] 27) := ⟨_, rfl⟩
  rw [← hV]
  have G0 : Hid (Below w.heap.size w V0 ∧ Blk V0 w.heap.size 27 #[.int .i64 c.time, .slice pa lp pc, .bool c.expl, .bool c.chk, .int .i64 c.usage]) := by rw [hV]; exact ⟨(Below.refl _ _).alloc (Nat.le_refl _) _, Blk.new w _ _⟩
  clear hV
  refine (E1.out V0 G0.out.1).mono ?_
  rintro e V1 ⟨rfl, hb⟩
  have G1 : Hid (Below w.heap.size w V1 ∧ Blk V1 w.heap.size 27 #[.int .i64 c.time, .slice pa lp pc, .bool c.expl, .bool c.chk, .int .i64 c.usage]) := ⟨G0.out.1.trans (hb.mono G0.out.1.size), G0.out.2.below hb G0.out.2.lt⟩
  clear hb E1 G0
  have c10 : V1.cell? ⟨w.heap.size, 0, none⟩ = some (.int .i64 c.time) := G1.out.2.cell 0
  have c11 : V1.cell? ⟨w.heap.size, 1, none⟩ = some (.slice pa lp pc) := G1.out.2.cell 1
  have c12 : V1.cell? ⟨w.heap.size, 2, none⟩ = some (.bool c.expl) := G1.out.2.cell 2
  have c13 : V1.cell? ⟨w.heap.size, 3, none⟩ = some (.bool c.chk) := G1.out.2.cell 3
  have c14 : V1.cell? ⟨w.heap.size, 4, none⟩ = some (.int .i64 c.usage) := G1.out.2.cell 4
  cases B1 with
  | false =>
    go_wp2_with fail
    go_ret
    exact ⟨by rw [HC.out]; rfl, G1.out.1⟩
  | true =>
    go_wp2_with fail
    refine (E2.out V1 G1.out.1).mono ?_
    rintro e V2 ⟨rfl, hb⟩
    have G2 : Hid (Below w.heap.size w V2 ∧ Blk V2 w.heap.size 27 #[.int .i64 c.time, .slice pa lp pc, .bool c.expl, .bool c.chk, .int .i64 c.usage]) := ⟨G1.out.1.trans (hb.mono G1.out.1.size), G1.out.2.below hb G1.out.2.lt⟩
    clear hb E2 G1
    have c20 : V2.cell? ⟨w.heap.size, 0, none⟩ = some (.int .i64 c.time) := G2.out.2.cell 0
    have c21 : V2.cell? ⟨w.heap.size, 1, none⟩ = some (.slice pa lp pc) := G2.out.2.cell 1
    have c22 : V2.cell? ⟨w.heap.size, 2, none⟩ = some (.bool c.expl) := G2.out.2.cell 2
    have c23 : V2.cell? ⟨w.heap.size, 3, none⟩ = some (.bool c.chk) := G2.out.2.cell 3
    have c24 : V2.cell? ⟨w.heap.size, 4, none⟩ = some (.int .i64 c.usage) := G2.out.2.cell 4
    cases B2 with
    | false =>
      go_wp2_with fail
      go_ret
      exact ⟨by rw [HC.out]; rfl, G2.out.1⟩
    | true =>
      go_wp2_with fail
      refine (E3.out V2 G2.out.1).mono ?_
      rintro e V3 ⟨rfl, hb⟩
      have G3 : Hid (Below w.heap.size w V3 ∧ Blk V3 w.heap.size 27 #[.int .i64 c.time, .slice pa lp pc, .bool c.expl, .bool c.chk, .int .i64 c.usage]) := ⟨G2.out.1.trans (hb.mono G2.out.1.size), G2.out.2.below hb G2.out.2.lt⟩
      clear hb E3 G2
      have c30 : V3.cell? ⟨w.heap.size, 0, none⟩ = some (.int .i64 c.time) := G3.out.2.cell 0
      have c31 : V3.cell? ⟨w.heap.size, 1, none⟩ = some (.slice pa lp pc) := G3.out.2.cell 1
      have c32 : V3.cell? ⟨w.heap.size, 2, none⟩ = some (.bool c.expl) := G3.out.2.cell 2
      have c33 : V3.cell? ⟨w.heap.size, 3, none⟩ = some (.bool c.chk) := G3.out.2.cell 3
      have c34 : V3.cell? ⟨w.heap.size, 4, none⟩ = some (.int .i64 c.usage) := G3.out.2.cell 4
      go_wp2_with fail
      go_ret
      exact ⟨by rw [HC.out]; rfl, G3.out.1⟩
set_option maxHeartbeats 3200000 in
set_option maxRecDepth 100000 in
theorem implRulesOk_any (c : Ru) (v : Value) (w : World) (hz : wtU c ≤ 1000000000) (ha : RuAt w v c) :
    Calls Try.prog 8 #[v] w fun e w' => e = .returned (.bool (ruOk c)) ∧ Below w.heap.size w w' := by
  obtain ⟨pv, rfl, h1⟩ := ha
  obtain ⟨pa, pc, hpa⟩ : ∃ ao cap, pv = .slice ao c.pol.length cap := by obtain ⟨ao, cap, h, _⟩ := h1; exact ⟨ao, cap, h⟩
  obtain ⟨lp, hlp⟩ : ∃ l, c.pol.length = l := ⟨_, rfl⟩
  rw [hlp] at hpa
  subst hpa
  obtain ⟨B1, hB1⟩ : ∃ b, inB c.time 0 9999 = b := ⟨_, rfl⟩
  have E1 : Hid (∀ W, Below w.heap.size w W → Calls Try.prog 20 #[.int .i64 9999, .int .i64 c.time] W fun e w' => e = .returned (.bool B1) ∧ Below W.heap.size W w') := fun W hb => by rw [← hB1]; exact upTo_any _ _ W
  obtain ⟨B2, hB2⟩ : ∃ b, polOk c.pol = b := ⟨_, rfl⟩
  have E2 : Hid (∀ W, Below w.heap.size w W → Calls Try.prog 21 #[.slice pa lp pc] W fun e w' => e = .returned (.bool B2) ∧ Below W.heap.size W w') := fun W hb => by rw [← hB2]; exact implIok_any _ c.pol W hz (h1.below hb)
  obtain ⟨B3, hB3⟩ : ∃ b, inB c.usage 0 7 = b := ⟨_, rfl⟩
  have E3 : Hid (∀ W, Below w.heap.size w W → Calls Try.prog 20 #[.int .i64 7, .int .i64 c.usage] W fun e w' => e = .returned (.bool B3) ∧ Below W.heap.size W w') := fun W hb => by rw [← hB3]; exact upTo_any _ _ W
  have HC : Hid (ruOk c = (B1 && (B2 && B3))) := by show ruOk c = _; unfold ruOk; rw [hB1, hB2, hB3]
  clear hB1 hB2 hB3 h1 hlp hz
  unfold ruV
  go_enter Try.func8, Try.ntmps8
  go_wp2_with fail
  obtain ⟨V0, hV⟩ : ∃ V, V = w.alloc (Obj.cells #[.int .i64 c.time, .slice pa lp pc, .bool c.expl, .bool c.chk, .int .i64 c.usage] 27) := ⟨_, rfl⟩
  rw [← hV]
  have G0 : Hid (Below w.heap.size w V0 ∧ Blk V0 w.heap.size 27 #[.int .i64 c.time, .slice pa lp pc, .bool c.expl, .bool c.chk, .int .i64 c.usage]) := by rw [hV]; exact ⟨(Below.refl _ _).alloc (Nat.le_refl _) _, Blk.new w _ _⟩
  clear hV
  refine (E1.out V0 G0.out.1).mono ?_
  rintro e V1 ⟨rfl, hb⟩
  have G1 : Hid (Below w.heap.size w V1 ∧ Blk V1 w.heap.size 27 #[.int .i64 c.time, .slice pa lp pc, .bool c.expl, .bool c.chk, .int .i64 c.usage]) := ⟨G0.out.1.trans (hb.mono G0.out.1.size), G0.out.2.below hb G0.out.2.lt⟩
  clear hb E1 G0
  have c10 : V1.cell? ⟨w.heap.size, 0, none⟩ = some (.int .i64 c.time) := G1.out.2.cell 0
  have c11 : V1.cell? ⟨w.heap.size, 1, none⟩ = some (.slice pa lp pc) := G1.out.2.cell 1
  have c12 : V1.cell? ⟨w.heap.size, 2, none⟩ = some (.bool c.expl) := G1.out.2.cell 2
  have c13 : V1.cell? ⟨w.heap.size, 3, none⟩ = some (.bool c.chk) := G1.out.2.cell 3
  have c14 : V1.cell? ⟨w.heap.size, 4, none⟩ = some (.int .i64 c.usage) := G1.out.2.cell 4
  cases B1 with
  | false =>
    go_wp2_with fail
    go_ret
    exact ⟨by rw [HC.out]; rfl, G1.out.1⟩
  | true =>
    go_wp2_with fail
    refine (E2.out V1 G1.out.1).mono ?_
    rintro e V2 ⟨rfl, hb⟩
    have G2 : Hid (Below w.heap.size w V2 ∧ Blk V2 w.heap.size 27 #[.int .i64 c.time, .slice pa lp pc, .bool c.expl, .bool c.chk, .int .i64 c.usage]) := ⟨G1.out.1.trans (hb.mono G1.out.1.size), G1.out.2.below hb G1.out.2.lt⟩
    clear hb E2 G1
    have c20 : V2.cell? ⟨w.heap.size, 0, none⟩ = some (.int .i64 c.time) := G2.out.2.cell 0
    have c21 : V2.cell? ⟨w.heap.size, 1, none⟩ = some (.slice pa lp pc) := G2.out.2.cell 1
    have c22 : V2.cell? ⟨w.heap.size, 2, none⟩ = some (.bool c.expl) := G2.out.2.cell 2
    have c23 : V2.cell? ⟨w.heap.size, 3, none⟩ = some (.bool c.chk) := G2.out.2.cell 3
    have c24 : V2.cell? ⟨w.heap.size, 4, none⟩ = some (.int .i64 c.usage) := G2.out.2.cell 4
    cases B2 with
    | false =>
      go_wp2_with fail
      go_ret
      exact ⟨by rw [HC.out]; rfl, G2.out.1⟩
    | true =>
      go_wp2_with fail
      refine (E3.out V2 G2.out.1).mono ?_
      rintro e V3 ⟨rfl, hb⟩
      have G3 : Hid (Below w.heap.size w V3 ∧ Blk V3 w.heap.size 27 #[.int .i64 c.time, .slice pa lp pc, .bool c.expl, .bool c.chk, .int .i64 c.usage]) := ⟨G2.out.1.trans (hb.mono G2.out.1.size), G2.out.2.below hb G2.out.2.lt⟩
      clear hb E3 G2
      have c30 : V3.cell? ⟨w.heap.size, 0, none⟩ = some (.int .i64 c.time) := G3.out.2.cell 0
      have c31 : V3.cell? ⟨w.heap.size, 1, none⟩ = some (.slice pa lp pc) := G3.out.2.cell 1
      have c32 : V3.cell? ⟨w.heap.size, 2, none⟩ = some (.bool c.expl) := G3.out.2.cell 2
      have c33 : V3.cell? ⟨w.heap.size, 3, none⟩ = some (.bool c.chk) := G3.out.2.cell 3
      have c34 : V3.cell? ⟨w.heap.size, 4, none⟩ = some (.int .i64 c.usage) := G3.out.2.cell 4
      go_wp2_with fail
      go_ret
      exact ⟨by rw [HC.out]; rfl, G3.out.1⟩
end Go.Proofs.Ytlnklfchdnndpaa
