/-
  AskOk of both sides.
-/
import Derived.Test.YtbiiihjohbnodaaAkA
import Derived.Test.YtbiiihjohbnodaaTfS
import Derived.Test.YtbiiihjohbnodaaCrE
import Derived.Test.YtbiiihjohbnodaaCrQ
namespace Go.Proofs.Ytbiiihjohbnodaa
open Go.RowKit
set_option linter.unusedVariables false

/-- Whether a question is right. -/
def askOk (c : Ak) : Bool := (tgOk c.tg && inB c.tg.length 1 3) && (inB c.plan 0 99 && (inB c.want 0 3 && (inB c.nonce 0 1000000000 && inB c.time 0 9999)))
set_option maxHeartbeats 3200000 in
set_option maxRecDepth 100000 in
theorem specAskOk_any (c : Ak) (v : Value) (w : World) (hz : wtAk c ≤ 1000000000) (ha : AkAt w v c) :
    Calls Try.prog 12 #[v] w fun e w' => e = .returned (.bool (askOk c)) ∧ Below w.heap.size w w' := by
  obtain ⟨pv, rfl, h1⟩ := ha
  obtain ⟨pa, pc, hpa⟩ : ∃ ao cap, pv = .slice ao c.tg.length cap := by obtain ⟨ao, cap, h, _⟩ := h1; exact ⟨ao, cap, h⟩
  have hll := Nat.le_trans (tot_len c.tg) hz
  obtain ⟨lp, hlp⟩ : ∃ l, c.tg.length = l := ⟨_, rfl⟩
  rw [hlp] at hpa hll
  subst hpa
  obtain ⟨B1, hB1⟩ : ∃ b, inB c.tg.length 1 3 = b := ⟨_, rfl⟩
  have E1 : Hid (∀ W, Below w.heap.size w W → Calls Try.prog 41 #[.int .i64 (lp : Int), .int .i64 1, .int .i64 3] W fun e w' => e = .returned (.bool B1) ∧ Below W.heap.size W w') := fun W hb => by rw [← hB1]; exact by rw [hlp]; exact in_any _ _ _ W
  obtain ⟨B2, hB2⟩ : ∃ b, inB c.plan 0 99 = b := ⟨_, rfl⟩
  have E2 : Hid (∀ W, Below w.heap.size w W → Calls Try.prog 41 #[.int .i64 c.plan, .int .i64 0, .int .i64 99] W fun e w' => e = .returned (.bool B2) ∧ Below W.heap.size W w') := fun W hb => by rw [← hB2]; exact in_any _ _ _ W
  obtain ⟨B3, hB3⟩ : ∃ b, inB c.want 0 3 = b := ⟨_, rfl⟩
  have E3 : Hid (∀ W, Below w.heap.size w W → Calls Try.prog 41 #[.int .i64 c.want, .int .i64 0, .int .i64 3] W fun e w' => e = .returned (.bool B3) ∧ Below W.heap.size W w') := fun W hb => by rw [← hB3]; exact in_any _ _ _ W
  obtain ⟨B4, hB4⟩ : ∃ b, inB c.nonce 0 1000000000 = b := ⟨_, rfl⟩
  have E4 : Hid (∀ W, Below w.heap.size w W → Calls Try.prog 41 #[.int .i64 c.nonce, .int .i64 0, .int .i64 1000000000] W fun e w' => e = .returned (.bool B4) ∧ Below W.heap.size W w') := fun W hb => by rw [← hB4]; exact in_any _ _ _ W
  obtain ⟨B5, hB5⟩ : ∃ b, inB c.time 0 9999 = b := ⟨_, rfl⟩
  have E5 : Hid (∀ W, Below w.heap.size w W → Calls Try.prog 42 #[.int .i64 c.time] W fun e w' => e = .returned (.bool B5) ∧ Below W.heap.size W w') := fun W hb => by rw [← hB5]; exact num_any _ W
  have HC0 : Hid (askOk c = ((tgOk c.tg && B1) && (B2 && (B3 && (B4 && B5))))) := by show askOk c = _; unfold askOk; rw [hB1, hB2, hB3, hB4, hB5]
  have HT : Hid (TxtAt w (.slice pa lp pc) c.tg ∧ c.tg.length = lp) := ⟨h1, hlp⟩
  have HZ : Hid (wtAk c ≤ 1000000000) := hz
  clear hB1 hB2 hB3 hB4 hB5 h1 hlp hz
  unfold akV
  go_enter Try.func12, Try.ntmps12
  go_wp2_with fail
  obtain ⟨V0, hV⟩ : ∃ V, V = w.alloc (Obj.cells #[.slice pa lp pc, .int .i64 c.plan, .int .i64 c.want, .int .i64 c.nonce, .int .i64 c.time, .bool c.cac] 27) := ⟨_, rfl⟩
  rw [← hV]
  have G0 : Hid (Below w.heap.size w V0 ∧ Blk V0 w.heap.size 27 #[.slice pa lp pc, .int .i64 c.plan, .int .i64 c.want, .int .i64 c.nonce, .int .i64 c.time, .bool c.cac]) := by rw [hV]; exact ⟨(Below.refl _ _).alloc (Nat.le_refl _) _, Blk.new w _ _⟩
  clear hV
  go_loopw [3] (fun iv wr => ∃ k : Nat, k ≤ lp ∧ iv = .int .i64 k ∧ Hid (∀ j, j < k → (c.tg.getD j ByteArray.empty).size ≤ 400) ∧ Hid (Below w.heap.size w wr ∧ Blk wr w.heap.size 27 #[.slice pa lp pc, .int .i64 c.plan, .int .i64 c.want, .int .i64 c.nonce, .int .i64 c.time, .bool c.cac])) (fun iv _ => lp - (intOf iv).toNat)
  case atStart => exact ⟨0, Nat.zero_le _, rfl, fun j hj => absurd hj (Nat.not_lt_zero _), G0⟩
  case round =>
    obtain ⟨k, hk, rfl, HL, G1⟩ := hrel
    clear G0
    have d0 : wr.cell? ⟨w.heap.size, 0, none⟩ = some (.slice pa lp pc) := G1.out.2.cell 0
    by_cases hlt : k < lp
    · obtain ⟨ao, cap, he, hcell⟩ := HT.out.1
      obtain ⟨g, hg, hgw, hcs⟩ := hcell k (by rw [HT.out.2]; exact hlt)
      injection he with e1 e2 e3
      have hpg : pa = some ⟨g, 0, none⟩ := by rw [e1]; exact hg
      have hc1 : wr.cell? ⟨g, k, none⟩ = some (.string (c.tg.getD k ByteArray.empty)) := (G1.out.1.cell (p := ⟨g, k, none⟩) hgw).trans hcs
      have hsx : (c.tg.getD k ByteArray.empty).size ≤ 1000000000 := by
        have hm : c.tg.getD k ByteArray.empty ∈ c.tg := by rw [List.getD_eq_getElem?_getD, List.getElem?_eq_getElem (by rw [HT.out.2]; exact hlt)]; exact List.getElem_mem _
        exact Nat.le_trans (tot_mem c.tg _ hm) HZ.out
      have hki : (k : Int) < (lp : Int) := by omega
      have hk0 : (0 : Int) ≤ (k : Int) := by omega
      obtain ⟨x, hx⟩ : ∃ x, c.tg.getD k ByteArray.empty = x := ⟨_, rfl⟩
      rw [hx] at hc1 hsx
      have HX : Hid (c.tg.getD k ByteArray.empty = x) := hx
      subst hpg
      clear hcell hcs e1 e2 e3 hg hx hgw
      by_cases h4 : x.size ≤ 400
      · have h4i : ¬ (400 : Int) < (x.size : Int) := by omega
        have HN : Hid (∀ j, j < k + 1 → (c.tg.getD j ByteArray.empty).size ≤ 400) := fun j hj => by
          rcases Nat.lt_or_ge j k with h | h
          · exact HL.out j h
          · have : j = k := by omega
            subst this
            rw [HX.out]; exact h4
        clear HL
        go_wp2_with fail
        go_roundw
        case rel => exact ⟨k + 1, by omega, by go_num, HN, G1⟩
        case measure => simp [intOf]; omega
      · have h4i : (400 : Int) < (x.size : Int) := by omega
        have HF : Hid (askOk c = false) := by rw [HC0.out, tg_no (k := k) (by rw [HT.out.2]; exact hlt) (by rw [HX.out]; exact h4)]; rfl
        go_wp2_with fail
        go_ret
        exact ⟨by rw [HF.out]; rfl, G1.out.1⟩
    · have hkl : lp = k := by omega
      subst hkl
      have HC : Hid (askOk c = (B1 && (B2 && (B3 && (B4 && B5))))) := by rw [HC0.out, tg_yes (fun j hj => HL.out j (by rw [← HT.out.2]; exact hj))]; rfl
      clear HC0 HL
      go_wp2_with fail
      refine (E1.out wr G1.out.1).mono ?_
      rintro e V2 ⟨rfl, hb⟩
      have G2 : Hid (Below w.heap.size w V2 ∧ Blk V2 w.heap.size 27 #[.slice pa lp pc, .int .i64 c.plan, .int .i64 c.want, .int .i64 c.nonce, .int .i64 c.time, .bool c.cac]) := ⟨G1.out.1.trans (hb.mono G1.out.1.size), G1.out.2.below hb G1.out.2.lt⟩
      clear hb E1 G1
      have d20 : V2.cell? ⟨w.heap.size, 0, none⟩ = some (.slice pa lp pc) := G2.out.2.cell 0
      have d21 : V2.cell? ⟨w.heap.size, 1, none⟩ = some (.int .i64 c.plan) := G2.out.2.cell 1
      have d22 : V2.cell? ⟨w.heap.size, 2, none⟩ = some (.int .i64 c.want) := G2.out.2.cell 2
      have d23 : V2.cell? ⟨w.heap.size, 3, none⟩ = some (.int .i64 c.nonce) := G2.out.2.cell 3
      have d24 : V2.cell? ⟨w.heap.size, 4, none⟩ = some (.int .i64 c.time) := G2.out.2.cell 4
      have d25 : V2.cell? ⟨w.heap.size, 5, none⟩ = some (.bool c.cac) := G2.out.2.cell 5
      cases B1 with
      | false =>
        go_wp2_with fail
        go_ret
        exact ⟨by rw [HC.out]; rfl, G2.out.1⟩
      | true =>
        go_wp2_with fail
        refine (E2.out V2 G2.out.1).mono ?_
        rintro e V3 ⟨rfl, hb⟩
        have G3 : Hid (Below w.heap.size w V3 ∧ Blk V3 w.heap.size 27 #[.slice pa lp pc, .int .i64 c.plan, .int .i64 c.want, .int .i64 c.nonce, .int .i64 c.time, .bool c.cac]) := ⟨G2.out.1.trans (hb.mono G2.out.1.size), G2.out.2.below hb G2.out.2.lt⟩
        clear hb E2 G2
        have d30 : V3.cell? ⟨w.heap.size, 0, none⟩ = some (.slice pa lp pc) := G3.out.2.cell 0
        have d31 : V3.cell? ⟨w.heap.size, 1, none⟩ = some (.int .i64 c.plan) := G3.out.2.cell 1
        have d32 : V3.cell? ⟨w.heap.size, 2, none⟩ = some (.int .i64 c.want) := G3.out.2.cell 2
        have d33 : V3.cell? ⟨w.heap.size, 3, none⟩ = some (.int .i64 c.nonce) := G3.out.2.cell 3
        have d34 : V3.cell? ⟨w.heap.size, 4, none⟩ = some (.int .i64 c.time) := G3.out.2.cell 4
        have d35 : V3.cell? ⟨w.heap.size, 5, none⟩ = some (.bool c.cac) := G3.out.2.cell 5
        cases B2 with
        | false =>
          go_wp2_with fail
          go_ret
          exact ⟨by rw [HC.out]; rfl, G3.out.1⟩
        | true =>
          go_wp2_with fail
          refine (E3.out V3 G3.out.1).mono ?_
          rintro e V4 ⟨rfl, hb⟩
          have G4 : Hid (Below w.heap.size w V4 ∧ Blk V4 w.heap.size 27 #[.slice pa lp pc, .int .i64 c.plan, .int .i64 c.want, .int .i64 c.nonce, .int .i64 c.time, .bool c.cac]) := ⟨G3.out.1.trans (hb.mono G3.out.1.size), G3.out.2.below hb G3.out.2.lt⟩
          clear hb E3 G3
          have d40 : V4.cell? ⟨w.heap.size, 0, none⟩ = some (.slice pa lp pc) := G4.out.2.cell 0
          have d41 : V4.cell? ⟨w.heap.size, 1, none⟩ = some (.int .i64 c.plan) := G4.out.2.cell 1
          have d42 : V4.cell? ⟨w.heap.size, 2, none⟩ = some (.int .i64 c.want) := G4.out.2.cell 2
          have d43 : V4.cell? ⟨w.heap.size, 3, none⟩ = some (.int .i64 c.nonce) := G4.out.2.cell 3
          have d44 : V4.cell? ⟨w.heap.size, 4, none⟩ = some (.int .i64 c.time) := G4.out.2.cell 4
          have d45 : V4.cell? ⟨w.heap.size, 5, none⟩ = some (.bool c.cac) := G4.out.2.cell 5
          cases B3 with
          | false =>
            go_wp2_with fail
            go_ret
            exact ⟨by rw [HC.out]; rfl, G4.out.1⟩
          | true =>
            go_wp2_with fail
            refine (E4.out V4 G4.out.1).mono ?_
            rintro e V5 ⟨rfl, hb⟩
            have G5 : Hid (Below w.heap.size w V5 ∧ Blk V5 w.heap.size 27 #[.slice pa lp pc, .int .i64 c.plan, .int .i64 c.want, .int .i64 c.nonce, .int .i64 c.time, .bool c.cac]) := ⟨G4.out.1.trans (hb.mono G4.out.1.size), G4.out.2.below hb G4.out.2.lt⟩
            clear hb E4 G4
            have d50 : V5.cell? ⟨w.heap.size, 0, none⟩ = some (.slice pa lp pc) := G5.out.2.cell 0
            have d51 : V5.cell? ⟨w.heap.size, 1, none⟩ = some (.int .i64 c.plan) := G5.out.2.cell 1
            have d52 : V5.cell? ⟨w.heap.size, 2, none⟩ = some (.int .i64 c.want) := G5.out.2.cell 2
            have d53 : V5.cell? ⟨w.heap.size, 3, none⟩ = some (.int .i64 c.nonce) := G5.out.2.cell 3
            have d54 : V5.cell? ⟨w.heap.size, 4, none⟩ = some (.int .i64 c.time) := G5.out.2.cell 4
            have d55 : V5.cell? ⟨w.heap.size, 5, none⟩ = some (.bool c.cac) := G5.out.2.cell 5
            cases B4 with
            | false =>
              go_wp2_with fail
              go_ret
              exact ⟨by rw [HC.out]; rfl, G5.out.1⟩
            | true =>
              go_wp2_with fail
              refine (E5.out V5 G5.out.1).mono ?_
              rintro e V6 ⟨rfl, hb⟩
              have G6 : Hid (Below w.heap.size w V6 ∧ Blk V6 w.heap.size 27 #[.slice pa lp pc, .int .i64 c.plan, .int .i64 c.want, .int .i64 c.nonce, .int .i64 c.time, .bool c.cac]) := ⟨G5.out.1.trans (hb.mono G5.out.1.size), G5.out.2.below hb G5.out.2.lt⟩
              clear hb E5 G5
              have d60 : V6.cell? ⟨w.heap.size, 0, none⟩ = some (.slice pa lp pc) := G6.out.2.cell 0
              have d61 : V6.cell? ⟨w.heap.size, 1, none⟩ = some (.int .i64 c.plan) := G6.out.2.cell 1
              have d62 : V6.cell? ⟨w.heap.size, 2, none⟩ = some (.int .i64 c.want) := G6.out.2.cell 2
              have d63 : V6.cell? ⟨w.heap.size, 3, none⟩ = some (.int .i64 c.nonce) := G6.out.2.cell 3
              have d64 : V6.cell? ⟨w.heap.size, 4, none⟩ = some (.int .i64 c.time) := G6.out.2.cell 4
              have d65 : V6.cell? ⟨w.heap.size, 5, none⟩ = some (.bool c.cac) := G6.out.2.cell 5
              go_wp2_with fail
              go_ret
              exact ⟨by rw [HC.out]; rfl, G6.out.1⟩
set_option maxHeartbeats 1600000 in
set_option maxRecDepth 100000 in
theorem targetsRight_any (l : List ByteArray) (v : Value) (w : World) (hz : totT l ≤ 1000000000) (h1 : TxtAt w v l) :
    Calls Try.prog 44 #[v] w fun e w' => e = .returned (.bool (tgOk l && inB l.length 1 3)) ∧ Below w.heap.size w w' := by
  have E := textsFit_any l v 3 w hz h1
  have hll := Nat.le_trans (tot_len l) hz
  obtain ⟨pa, pc, rfl, -⟩ := h1
  obtain ⟨lp, hlp⟩ : ∃ n, l.length = n := ⟨_, rfl⟩
  obtain ⟨R, hR⟩ : ∃ b, (tgOk l && inB l.length 1 3) = b := ⟨_, rfl⟩
  obtain ⟨B, hB⟩ : ∃ b, txOk l 3 = b := ⟨_, rfl⟩
  have HR : Hid ((tgOk l && inB l.length 1 3) = R) := hR
  have HB : Hid (txOk l 3 = B) := hB
  have HL : Hid (l.length = lp) := hlp
  rw [hR]
  rw [hlp] at E hll ⊢
  rw [hB] at E
  clear hB hz hlp hR
  by_cases h0 : 0 < lp
  · have h0i : (0 : Int) < (lp : Int) := by omega
    have HF : Hid (R = B) := by
      have e : inB (l.length : Int) 1 3 = decide (l.length ≤ 3) := by
        have := HL.out
        unfold inB
        by_cases h3 : l.length ≤ 3
        · rw [decide_eq_true h3]; exact decide_eq_true (by omega)
        · rw [decide_eq_false h3]; exact decide_eq_false (by omega)
      show R = B
      rw [← HR.out, ← HB.out, e]
      rfl
    clear h0
    go_enter Try.func44, Try.ntmps44
    go_wp2_with fail
    refine E.mono ?_
    rintro e w2 ⟨rfl, hb⟩
    have G2 : Hid (Below w.heap.size w w2) := hb
    clear E hb
    cases B with
    | false =>
      go_wp2_with fail
      go_ret
      exact ⟨by rw [HF.out]; rfl, G2.out⟩
    | true =>
      go_wp2_with fail
      go_ret
      exact ⟨by rw [HF.out]; rfl, G2.out⟩
  · have h0i : ¬ (0 : Int) < (lp : Int) := by omega
    have HF : Hid (R = false) := by
      have e : inB (l.length : Int) 1 3 = false := by
        have := HL.out
        unfold inB
        exact decide_eq_false (by omega)
      show R = false
      rw [← HR.out, e]
      simp
    clear h0
    go_enter Try.func44, Try.ntmps44
    go_wp2_with fail
    go_ret
    exact ⟨by rw [HF.out]; rfl, Below.refl _ _⟩
set_option maxHeartbeats 3200000 in
set_option maxRecDepth 100000 in
theorem implAskOk_any (c : Ak) (v : Value) (w : World) (hz : wtAk c ≤ 1000000000) (ha : AkAt w v c) :
    Calls Try.prog 14 #[v] w fun e w' => e = .returned (.bool (askOk c)) ∧ Below w.heap.size w w' := by
  obtain ⟨pv, rfl, h1⟩ := ha
  obtain ⟨pa, pc, hpa⟩ : ∃ ao cap, pv = .slice ao c.tg.length cap := by obtain ⟨ao, cap, h, _⟩ := h1; exact ⟨ao, cap, h⟩
  have hll := Nat.le_trans (tot_len c.tg) hz
  obtain ⟨lp, hlp⟩ : ∃ l, c.tg.length = l := ⟨_, rfl⟩
  rw [hlp] at hpa hll
  subst hpa
  obtain ⟨B1, hB1⟩ : ∃ b, (tgOk c.tg && inB (c.tg.length : Int) 1 3) = b := ⟨_, rfl⟩
  have E1 : Hid (∀ W, Below w.heap.size w W → Calls Try.prog 44 #[.slice pa lp pc] W fun e w' => e = .returned (.bool B1) ∧ Below W.heap.size W w') := fun W hb => by rw [← hB1]; exact targetsRight_any c.tg _ W hz (h1.below hb)
  obtain ⟨B2, hB2⟩ : ∃ b, inB c.plan 0 99 = b := ⟨_, rfl⟩
  have E2 : Hid (∀ W, Below w.heap.size w W → Calls Try.prog 45 #[.int .i64 99, .int .i64 c.plan] W fun e w' => e = .returned (.bool B2) ∧ Below W.heap.size W w') := fun W hb => by rw [← hB2]; exact upTo_any _ _ W
  obtain ⟨B3, hB3⟩ : ∃ b, inB c.want 0 3 = b := ⟨_, rfl⟩
  have E3 : Hid (∀ W, Below w.heap.size w W → Calls Try.prog 45 #[.int .i64 3, .int .i64 c.want] W fun e w' => e = .returned (.bool B3) ∧ Below W.heap.size W w') := fun W hb => by rw [← hB3]; exact upTo_any _ _ W
  obtain ⟨B4, hB4⟩ : ∃ b, inB c.nonce 0 1000000000 = b := ⟨_, rfl⟩
  have E4 : Hid (∀ W, Below w.heap.size w W → Calls Try.prog 45 #[.int .i64 1000000000, .int .i64 c.nonce] W fun e w' => e = .returned (.bool B4) ∧ Below W.heap.size W w') := fun W hb => by rw [← hB4]; exact upTo_any _ _ W
  obtain ⟨B5, hB5⟩ : ∃ b, inB c.time 0 9999 = b := ⟨_, rfl⟩
  have E5 : Hid (∀ W, Below w.heap.size w W → Calls Try.prog 45 #[.int .i64 9999, .int .i64 c.time] W fun e w' => e = .returned (.bool B5) ∧ Below W.heap.size W w') := fun W hb => by rw [← hB5]; exact upTo_any _ _ W
  have HC : Hid (askOk c = (B1 && (B2 && (B3 && (B4 && B5))))) := by show askOk c = _; unfold askOk; rw [hB1, hB2, hB3, hB4, hB5]
  clear hB1 hB2 hB3 hB4 hB5 h1 hlp hz
  unfold akV
  go_enter Try.func14, Try.ntmps14
  go_wp2_with fail
  obtain ⟨V0, hV⟩ : ∃ V, V = w.alloc (Obj.cells #[.slice pa lp pc, .int .i64 c.plan, .int .i64 c.want, .int .i64 c.nonce, .int .i64 c.time, .bool c.cac] 27) := ⟨_, rfl⟩
  rw [← hV]
  have G0 : Hid (Below w.heap.size w V0 ∧ Blk V0 w.heap.size 27 #[.slice pa lp pc, .int .i64 c.plan, .int .i64 c.want, .int .i64 c.nonce, .int .i64 c.time, .bool c.cac]) := by rw [hV]; exact ⟨(Below.refl _ _).alloc (Nat.le_refl _) _, Blk.new w _ _⟩
  clear hV
  refine (E1.out V0 G0.out.1).mono ?_
  rintro e V1 ⟨rfl, hb⟩
  have G1 : Hid (Below w.heap.size w V1 ∧ Blk V1 w.heap.size 27 #[.slice pa lp pc, .int .i64 c.plan, .int .i64 c.want, .int .i64 c.nonce, .int .i64 c.time, .bool c.cac]) := ⟨G0.out.1.trans (hb.mono G0.out.1.size), G0.out.2.below hb G0.out.2.lt⟩
  clear hb E1 G0
  have d10 : V1.cell? ⟨w.heap.size, 0, none⟩ = some (.slice pa lp pc) := G1.out.2.cell 0
  have d11 : V1.cell? ⟨w.heap.size, 1, none⟩ = some (.int .i64 c.plan) := G1.out.2.cell 1
  have d12 : V1.cell? ⟨w.heap.size, 2, none⟩ = some (.int .i64 c.want) := G1.out.2.cell 2
  have d13 : V1.cell? ⟨w.heap.size, 3, none⟩ = some (.int .i64 c.nonce) := G1.out.2.cell 3
  have d14 : V1.cell? ⟨w.heap.size, 4, none⟩ = some (.int .i64 c.time) := G1.out.2.cell 4
  have d15 : V1.cell? ⟨w.heap.size, 5, none⟩ = some (.bool c.cac) := G1.out.2.cell 5
  cases B1 with
  | false =>
    go_wp2_with fail
    go_ret
    exact ⟨by rw [HC.out]; rfl, G1.out.1⟩
  | true =>
    go_wp2_with fail
    refine (E2.out V1 G1.out.1).mono ?_
    rintro e V2 ⟨rfl, hb⟩
    have G2 : Hid (Below w.heap.size w V2 ∧ Blk V2 w.heap.size 27 #[.slice pa lp pc, .int .i64 c.plan, .int .i64 c.want, .int .i64 c.nonce, .int .i64 c.time, .bool c.cac]) := ⟨G1.out.1.trans (hb.mono G1.out.1.size), G1.out.2.below hb G1.out.2.lt⟩
    clear hb E2 G1
    have d20 : V2.cell? ⟨w.heap.size, 0, none⟩ = some (.slice pa lp pc) := G2.out.2.cell 0
    have d21 : V2.cell? ⟨w.heap.size, 1, none⟩ = some (.int .i64 c.plan) := G2.out.2.cell 1
    have d22 : V2.cell? ⟨w.heap.size, 2, none⟩ = some (.int .i64 c.want) := G2.out.2.cell 2
    have d23 : V2.cell? ⟨w.heap.size, 3, none⟩ = some (.int .i64 c.nonce) := G2.out.2.cell 3
    have d24 : V2.cell? ⟨w.heap.size, 4, none⟩ = some (.int .i64 c.time) := G2.out.2.cell 4
    have d25 : V2.cell? ⟨w.heap.size, 5, none⟩ = some (.bool c.cac) := G2.out.2.cell 5
    cases B2 with
    | false =>
      go_wp2_with fail
      go_ret
      exact ⟨by rw [HC.out]; rfl, G2.out.1⟩
    | true =>
      go_wp2_with fail
      refine (E3.out V2 G2.out.1).mono ?_
      rintro e V3 ⟨rfl, hb⟩
      have G3 : Hid (Below w.heap.size w V3 ∧ Blk V3 w.heap.size 27 #[.slice pa lp pc, .int .i64 c.plan, .int .i64 c.want, .int .i64 c.nonce, .int .i64 c.time, .bool c.cac]) := ⟨G2.out.1.trans (hb.mono G2.out.1.size), G2.out.2.below hb G2.out.2.lt⟩
      clear hb E3 G2
      have d30 : V3.cell? ⟨w.heap.size, 0, none⟩ = some (.slice pa lp pc) := G3.out.2.cell 0
      have d31 : V3.cell? ⟨w.heap.size, 1, none⟩ = some (.int .i64 c.plan) := G3.out.2.cell 1
      have d32 : V3.cell? ⟨w.heap.size, 2, none⟩ = some (.int .i64 c.want) := G3.out.2.cell 2
      have d33 : V3.cell? ⟨w.heap.size, 3, none⟩ = some (.int .i64 c.nonce) := G3.out.2.cell 3
      have d34 : V3.cell? ⟨w.heap.size, 4, none⟩ = some (.int .i64 c.time) := G3.out.2.cell 4
      have d35 : V3.cell? ⟨w.heap.size, 5, none⟩ = some (.bool c.cac) := G3.out.2.cell 5
      cases B3 with
      | false =>
        go_wp2_with fail
        go_ret
        exact ⟨by rw [HC.out]; rfl, G3.out.1⟩
      | true =>
        go_wp2_with fail
        refine (E4.out V3 G3.out.1).mono ?_
        rintro e V4 ⟨rfl, hb⟩
        have G4 : Hid (Below w.heap.size w V4 ∧ Blk V4 w.heap.size 27 #[.slice pa lp pc, .int .i64 c.plan, .int .i64 c.want, .int .i64 c.nonce, .int .i64 c.time, .bool c.cac]) := ⟨G3.out.1.trans (hb.mono G3.out.1.size), G3.out.2.below hb G3.out.2.lt⟩
        clear hb E4 G3
        have d40 : V4.cell? ⟨w.heap.size, 0, none⟩ = some (.slice pa lp pc) := G4.out.2.cell 0
        have d41 : V4.cell? ⟨w.heap.size, 1, none⟩ = some (.int .i64 c.plan) := G4.out.2.cell 1
        have d42 : V4.cell? ⟨w.heap.size, 2, none⟩ = some (.int .i64 c.want) := G4.out.2.cell 2
        have d43 : V4.cell? ⟨w.heap.size, 3, none⟩ = some (.int .i64 c.nonce) := G4.out.2.cell 3
        have d44 : V4.cell? ⟨w.heap.size, 4, none⟩ = some (.int .i64 c.time) := G4.out.2.cell 4
        have d45 : V4.cell? ⟨w.heap.size, 5, none⟩ = some (.bool c.cac) := G4.out.2.cell 5
        cases B4 with
        | false =>
          go_wp2_with fail
          go_ret
          exact ⟨by rw [HC.out]; rfl, G4.out.1⟩
        | true =>
          go_wp2_with fail
          refine (E5.out V4 G4.out.1).mono ?_
          rintro e V5 ⟨rfl, hb⟩
          have G5 : Hid (Below w.heap.size w V5 ∧ Blk V5 w.heap.size 27 #[.slice pa lp pc, .int .i64 c.plan, .int .i64 c.want, .int .i64 c.nonce, .int .i64 c.time, .bool c.cac]) := ⟨G4.out.1.trans (hb.mono G4.out.1.size), G4.out.2.below hb G4.out.2.lt⟩
          clear hb E5 G4
          have d50 : V5.cell? ⟨w.heap.size, 0, none⟩ = some (.slice pa lp pc) := G5.out.2.cell 0
          have d51 : V5.cell? ⟨w.heap.size, 1, none⟩ = some (.int .i64 c.plan) := G5.out.2.cell 1
          have d52 : V5.cell? ⟨w.heap.size, 2, none⟩ = some (.int .i64 c.want) := G5.out.2.cell 2
          have d53 : V5.cell? ⟨w.heap.size, 3, none⟩ = some (.int .i64 c.nonce) := G5.out.2.cell 3
          have d54 : V5.cell? ⟨w.heap.size, 4, none⟩ = some (.int .i64 c.time) := G5.out.2.cell 4
          have d55 : V5.cell? ⟨w.heap.size, 5, none⟩ = some (.bool c.cac) := G5.out.2.cell 5
          go_wp2_with fail
          go_ret
          exact ⟨by rw [HC.out]; rfl, G5.out.1⟩
end Go.Proofs.Ytbiiihjohbnodaa
