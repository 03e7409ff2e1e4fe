/-
  The program's answerWrong and ReplyOk.
-/
import Derived.Test.YtbiiihjohbnodaaRpQ
import Derived.Test.YtbiiihjohbnodaaTfS
namespace Go.Proofs.Ytbiiihjohbnodaa
open Go.RowKit
set_option linter.unusedVariables false
set_option linter.unusedSimpArgs false

set_option maxHeartbeats 3200000 in
set_option maxRecDepth 100000 in
theorem answerWrong_any (x : Aw) (v : Value) (w : World) (hz : wtAw x ≤ 1000000000) (ha : AwAt w v x) :
    Calls Try.prog 63 #[v] w fun e w' => e = .returned (.bool (!awOk x)) ∧ Below w.heap.size w w' := by
  obtain ⟨p1, q1, e1, r1, hv⟩ := AwAt.shape ha
  subst hv
  have hrows : TxtAt w (.slice p1 x.path.length q1) x.path ∧ TxtAt w (.slice e1 x.lst.length r1) x.lst := AwAt.rows ha
  have hwts : totT x.path ≤ 1000000000 ∧ totT x.lst ≤ 1000000000 := by unfold wtAw at hz; omega
  obtain ⟨B1, hB1⟩ : ∃ b, inB x.status 0 2 = b := ⟨_, rfl⟩
  have E1 : Hid (∀ W, Below w.heap.size w W → Calls Try.prog 45 #[.int .i64 2, .int .i64 x.status] W fun e w' => e = .returned (.bool B1) ∧ Below W.heap.size W w') := fun W hb => by rw [← hB1]; exact upTo_any _ _ W
  obtain ⟨B2, hB2⟩ : ∃ b, inB x.why 0 12 = b := ⟨_, rfl⟩
  have E2 : Hid (∀ W, Below w.heap.size w W → Calls Try.prog 45 #[.int .i64 12, .int .i64 x.why] W fun e w' => e = .returned (.bool B2) ∧ Below W.heap.size W w') := fun W hb => by rw [← hB2]; exact upTo_any _ _ W
  obtain ⟨B3, hB3⟩ : ∃ b, txOk x.path 5 = b := ⟨_, rfl⟩
  have E3 : Hid (∀ W, Below w.heap.size w W → Calls Try.prog 78 #[.int .i64 5, .slice p1 x.path.length q1] W fun e w' => e = .returned (.bool B3) ∧ Below W.heap.size W w') := fun W hb => by rw [← hB3]; exact textsFit_any x.path _ 5 W hwts.1 (hrows.1.below hb)
  obtain ⟨B4, hB4⟩ : ∃ b, txOk x.lst 8 = b := ⟨_, rfl⟩
  have E4 : Hid (∀ W, Below w.heap.size w W → Calls Try.prog 78 #[.int .i64 8, .slice e1 x.lst.length r1] W fun e w' => e = .returned (.bool B4) ∧ Below W.heap.size W w') := fun W hb => by rw [← hB4]; exact textsFit_any x.lst _ 8 W hwts.2 (hrows.2.below hb)
  have HC : Hid (awOk x = (B1 && (B2 && (B3 && B4)))) := by show awOk x = _; unfold awOk; rw [hB1, hB2, hB3, hB4]
  clear hB1 hB2 hB3 hB4 hrows hwts hz ha
  unfold awV
  go_enter Try.func63, Try.ntmps63
  go_wp2_with fail
  obtain ⟨V0, hV⟩ : ∃ V, V = w.alloc (Obj.cells #[.int .i64 x.status, .int .i64 x.why, .slice p1 x.path.length q1, .slice e1 x.lst.length r1] 84) := ⟨_, rfl⟩
  rw [← hV]
  have G0 : Hid (Below w.heap.size w V0 ∧ Blk V0 w.heap.size 84 #[.int .i64 x.status, .int .i64 x.why, .slice p1 x.path.length q1, .slice e1 x.lst.length r1]) := by rw [hV]; exact ⟨(Below.refl _ _).alloc (Nat.le_refl _) _, Blk.new w _ _⟩
  clear hV
  refine (E1.out V0 G0.out.1).mono ?_
  rintro e V1 ⟨rfl, hb⟩
  have G1 : Hid (Below w.heap.size w V1 ∧ Blk V1 w.heap.size 84 #[.int .i64 x.status, .int .i64 x.why, .slice p1 x.path.length q1, .slice e1 x.lst.length r1]) := ⟨G0.out.1.trans (hb.mono G0.out.1.size), G0.out.2.below hb G0.out.2.lt⟩
  clear hb E1 G0
  have d10 : V1.cell? ⟨w.heap.size, 0, none⟩ = some (.int .i64 x.status) := G1.out.2.cell 0
  have d11 : V1.cell? ⟨w.heap.size, 1, none⟩ = some (.int .i64 x.why) := G1.out.2.cell 1
  have d12 : V1.cell? ⟨w.heap.size, 2, none⟩ = some (.slice p1 x.path.length q1) := G1.out.2.cell 2
  have d13 : V1.cell? ⟨w.heap.size, 3, none⟩ = some (.slice e1 x.lst.length r1) := G1.out.2.cell 3
  cases B1 with
  | false =>
    go_wp2_with fail
    go_ret
    exact ⟨by rw [HC.out]; simp, G1.out.1⟩
  | true =>
    go_wp2_with fail
    refine (E2.out V1 G1.out.1).mono ?_
    rintro e V2 ⟨rfl, hb⟩
    have G2 : Hid (Below w.heap.size w V2 ∧ Blk V2 w.heap.size 84 #[.int .i64 x.status, .int .i64 x.why, .slice p1 x.path.length q1, .slice e1 x.lst.length r1]) := ⟨G1.out.1.trans (hb.mono G1.out.1.size), G1.out.2.below hb G1.out.2.lt⟩
    clear hb E2 G1
    have d20 : V2.cell? ⟨w.heap.size, 0, none⟩ = some (.int .i64 x.status) := G2.out.2.cell 0
    have d21 : V2.cell? ⟨w.heap.size, 1, none⟩ = some (.int .i64 x.why) := G2.out.2.cell 1
    have d22 : V2.cell? ⟨w.heap.size, 2, none⟩ = some (.slice p1 x.path.length q1) := G2.out.2.cell 2
    have d23 : V2.cell? ⟨w.heap.size, 3, none⟩ = some (.slice e1 x.lst.length r1) := G2.out.2.cell 3
    cases B2 with
    | false =>
      go_wp2_with fail
      go_ret
      exact ⟨by rw [HC.out]; simp, G2.out.1⟩
    | true =>
      go_wp2_with fail
      refine (E3.out V2 G2.out.1).mono ?_
      rintro e V3 ⟨rfl, hb⟩
      have G3 : Hid (Below w.heap.size w V3 ∧ Blk V3 w.heap.size 84 #[.int .i64 x.status, .int .i64 x.why, .slice p1 x.path.length q1, .slice e1 x.lst.length r1]) := ⟨G2.out.1.trans (hb.mono G2.out.1.size), G2.out.2.below hb G2.out.2.lt⟩
      clear hb E3 G2
      have d30 : V3.cell? ⟨w.heap.size, 0, none⟩ = some (.int .i64 x.status) := G3.out.2.cell 0
      have d31 : V3.cell? ⟨w.heap.size, 1, none⟩ = some (.int .i64 x.why) := G3.out.2.cell 1
      have d32 : V3.cell? ⟨w.heap.size, 2, none⟩ = some (.slice p1 x.path.length q1) := G3.out.2.cell 2
      have d33 : V3.cell? ⟨w.heap.size, 3, none⟩ = some (.slice e1 x.lst.length r1) := G3.out.2.cell 3
      cases B3 with
      | false =>
        go_wp2_with fail
        go_ret
        exact ⟨by rw [HC.out]; simp, G3.out.1⟩
      | true =>
        go_wp2_with fail
        refine (E4.out V3 G3.out.1).mono ?_
        rintro e V4 ⟨rfl, hb⟩
        have G4 : Hid (Below w.heap.size w V4 ∧ Blk V4 w.heap.size 84 #[.int .i64 x.status, .int .i64 x.why, .slice p1 x.path.length q1, .slice e1 x.lst.length r1]) := ⟨G3.out.1.trans (hb.mono G3.out.1.size), G3.out.2.below hb G3.out.2.lt⟩
        clear hb E4 G3
        have d40 : V4.cell? ⟨w.heap.size, 0, none⟩ = some (.int .i64 x.status) := G4.out.2.cell 0
        have d41 : V4.cell? ⟨w.heap.size, 1, none⟩ = some (.int .i64 x.why) := G4.out.2.cell 1
        have d42 : V4.cell? ⟨w.heap.size, 2, none⟩ = some (.slice p1 x.path.length q1) := G4.out.2.cell 2
        have d43 : V4.cell? ⟨w.heap.size, 3, none⟩ = some (.slice e1 x.lst.length r1) := G4.out.2.cell 3
        cases B4 with
        | false =>
          go_wp2_with fail
          go_ret
          exact ⟨by rw [HC.out]; simp, G4.out.1⟩
        | true =>
          go_wp2_with fail
          go_ret
          exact ⟨by rw [HC.out]; simp, G4.out.1⟩
set_option maxHeartbeats 3200000 in
set_option maxRecDepth 100000 in
theorem indexWrong_any (l : List Aw) (v : Value) (w : World) (hz : wtAS l ≤ 1000000000) (ha : AtS awKd w v l) :
    Calls Try.prog 99 #[v, .func (.func 63) #[] #[]] w fun e w' => IxP (!l.all awOk) w e w' := by
  obtain ⟨pa, pc, hpa⟩ := ha.shape
  obtain ⟨n, hn⟩ : ∃ z, l.length = z := ⟨_, rfl⟩
  rw [hn] at hpa
  subst hpa
  have hnl : n ≤ 1000000000 := by have := wtAS_len l; omega
  have HT : Hid (AtS awKd w (.slice pa n pc) l ∧ l.length = n) := ⟨ha, hn⟩
  have HZ : Hid (wtAS l ≤ 1000000000) := hz
  clear ha hn hz
  go_enter Try.func99, Try.ntmps99
  go_wp2_with fail
  go_loopw [8] (fun iv wr => ∃ k : Nat, k ≤ n ∧ iv = .int .i64 k ∧ Hid (∀ j (hj : j < l.length), j < k → awOk l[j] = true) ∧ Hid (Below w.heap.size w wr)) (fun iv _ => n - (intOf iv).toNat)
  case atStart => exact ⟨0, Nat.zero_le _, rfl, fun j _ hj => absurd hj (Nat.not_lt_zero _), Below.refl _ _⟩
  case round =>
    obtain ⟨k, hk, rfl, HL, G1⟩ := hrel
    by_cases hlt : k < n
    · have hkl : k < l.length := by rw [HT.out.2]; exact hlt
      obtain ⟨b, off, u, hao, hbB, hPu, hus, hcell⟩ := HT.out.1.get hkl
      obtain ⟨p1, q1, e1, r1, hu⟩ := AwAt.shape hPu
      obtain ⟨x, hx⟩ : ∃ x, l[k] = x := ⟨_, rfl⟩
      rw [hx] at hu
      have hxw : wtAw x ≤ 1000000000 := by rw [← hx]; exact Nat.le_trans (wtAS_mem (List.getElem_mem hkl)) HZ.out
      have hcb := fun i z (hz : u.cells[i]? = some z) => (G1.out.cell (p := ⟨b, off + k * 4 + i, none⟩) (by show b < w.heap.size; exact hbB)).trans (hcell i z hz)
      have HP : AwAt w u x := by rw [← hx]; exact hPu
      subst hao hu
      have u0 : wr.cell? ⟨b, off + k * 4, none⟩ = some (.int .i64 x.status) := hcb 0 _ rfl
      have u1 : wr.cell? ⟨b, off + k * 4 + 1, none⟩ = some (.int .i64 x.why) := hcb 1 _ rfl
      have u2 : wr.cell? ⟨b, off + k * 4 + 2, none⟩ = some (.slice p1 x.path.length q1) := hcb 2 _ rfl
      have u3 : wr.cell? ⟨b, off + k * 4 + 3, none⟩ = some (.slice e1 x.lst.length r1) := hcb 3 _ rfl
      have EA := answerWrong_any x _ wr hxw (HP.below G1.out)
      have HX : Hid (l[k] = x) := hx
      obtain ⟨B, hB⟩ : ∃ b, awOk x = b := ⟨_, rfl⟩
      rw [hB] at EA
      have HB : Hid (awOk x = B) := hB
      have hki : (k : Int) < (n : Int) := by omega
      have hk0 : (0 : Int) ≤ (k : Int) := by omega
      clear hcb hcell hPu hus hbB hx hxw HP hB
      unfold awV at EA
      go_wp2_with fail
      refine EA.mono ?_
      rintro e w2 ⟨rfl, hb⟩
      have G2 : Hid (Below w.heap.size w w2) := G1.out.trans (hb.mono G1.out.size)
      clear EA hb G1 u0 u1 u2 u3
      cases B with
      | false =>
        have HF : Hid (l.all awOk = false) := awAll_no hkl (by rw [HX.out, HB.out])
        go_wp2_with fail
        go_ret
        exact ⟨_, rfl, by rw [HF.out]; exact decide_eq_true hk0, G2.out⟩
      | true =>
        have HN : Hid (∀ j (hj : j < l.length), j < k + 1 → awOk l[j] = true) := fun j hj h => by
          rcases Nat.lt_or_ge j k with h | h
          · exact HL.out j hj h
          · have : j = k := by omega
            subst this
            rw [HX.out, HB.out]
        clear HL
        go_wp2_with fail
        go_roundw
        case rel => exact ⟨k + 1, by omega, by go_num, HN, G2⟩
        case measure => simp [intOf]; omega
    · have hkl : n = k := by omega
      subst hkl
      have HF : Hid (l.all awOk = true) := awAll_yes (fun j hj => HL.out j hj (by rw [← HT.out.2]; exact hj))
      go_wp2_with fail
      go_ret
      exact ⟨_, rfl, by rw [HF.out]; rfl, G1.out⟩
set_option maxRecDepth 100000 in
theorem containsWrong_any (l : List Aw) (v : Value) (w : World) (hz : wtAS l ≤ 1000000000) (ha : AtS awKd w v l) :
    Calls Try.prog 62 #[v, .func (.func 63) #[] #[]] w fun e w' => e = .returned (.bool (!l.all awOk)) ∧ Below w.heap.size w w' := by
  have EA := indexWrong_any l v w hz ha
  obtain ⟨pa, pc, hpa⟩ := ha.shape
  obtain ⟨n, hn⟩ : ∃ z, l.length = z := ⟨_, rfl⟩
  rw [hn] at hpa
  subst hpa
  obtain ⟨B, hB⟩ : ∃ b, (!l.all awOk) = b := ⟨_, rfl⟩
  rw [hB] at EA ⊢
  clear hB hz ha hn
  go_enter Try.func62, Try.ntmps62
  go_wp2_with fail
  refine EA.mono ?_
  rintro e w2 ⟨n, rfl, hn, hb⟩
  have G2 : Hid (Below w.heap.size w w2) := hb
  have HN : Hid (decide (0 ≤ n) = B) := hn
  clear EA hb hn
  go_wp2_with fail
  go_ret
  exact ⟨by show Ending.returned (.bool (decide (0 ≤ n))) = _; rw [HN.out], G2.out⟩
set_option maxHeartbeats 12800000 in
set_option maxRecDepth 100000 in
theorem implReplyOk_any (c : Rp) (v : Value) (w : World) (hz : wtR c ≤ 1000000000) (ha : RpAt w v c) :
    Calls Try.prog 25 #[v] w fun e w' => e = .returned (.bool (replyOk c)) ∧ Below w.heap.size w w' := by
  obtain ⟨pv, rfl, h1⟩ := ha
  obtain ⟨pa, pc, hpa⟩ := h1.shape
  obtain ⟨n, hn⟩ : ∃ l, c.ans.length = l := ⟨_, rfl⟩
  rw [hn] at hpa
  subst hpa
  have hz1 : wtAS c.ans ≤ 1000000000 := wtR_ans hz
  have hnl : n ≤ 1000000000 := by have := wtAS_len c.ans; omega
  have hsz : c.hash.size ≤ 1000000000 ∧ c.sig.size ≤ 1000000000 := by unfold wtR at hz; omega
  obtain ⟨C1, hC1⟩ : ∃ b, inB c.nonce 0 1000000000 = b := ⟨_, rfl⟩
  have F1 : Hid (∀ W, Below w.heap.size w W → Calls Try.prog 45 #[.int .i64 1000000000, .int .i64 c.nonce] W fun e w' => e = .returned (.bool C1) ∧ Below W.heap.size W w') := fun W hb => by rw [← hC1]; exact upTo_any _ _ W
  obtain ⟨C2, hC2⟩ : ∃ b, inB c.time 0 19999 = b := ⟨_, rfl⟩
  have F2 : Hid (∀ W, Below w.heap.size w W → Calls Try.prog 45 #[.int .i64 19999, .int .i64 c.time] W fun e w' => e = .returned (.bool C2) ∧ Below W.heap.size W w') := fun W hb => by rw [← hC2]; exact upTo_any _ _ W
  obtain ⟨C3, hC3⟩ : ∃ b, inB c.next 0 19999 = b := ⟨_, rfl⟩
  have F3 : Hid (∀ W, Below w.heap.size w W → Calls Try.prog 45 #[.int .i64 19999, .int .i64 c.next] W fun e w' => e = .returned (.bool C3) ∧ Below W.heap.size W w') := fun W hb => by rw [← hC3]; exact upTo_any _ _ W
  obtain ⟨C4, hC4⟩ : ∃ b, inB c.plan 0 99 = b := ⟨_, rfl⟩
  have F4 : Hid (∀ W, Below w.heap.size w W → Calls Try.prog 45 #[.int .i64 99, .int .i64 c.plan] W fun e w' => e = .returned (.bool C4) ∧ Below W.heap.size W w') := fun W hb => by rw [← hC4]; exact upTo_any _ _ W
  obtain ⟨C5, hC5⟩ : ∃ b, inB c.err 0 2 = b := ⟨_, rfl⟩
  have F5 : Hid (∀ W, Below w.heap.size w W → Calls Try.prog 45 #[.int .i64 2, .int .i64 c.err] W fun e w' => e = .returned (.bool C5) ∧ Below W.heap.size W w') := fun W hb => by rw [← hC5]; exact upTo_any _ _ W
  obtain ⟨C6, hC6⟩ : ∃ b, c.ans.all awOk = b := ⟨_, rfl⟩
  have F6 : Hid (∀ W, Below w.heap.size w W → Calls Try.prog 62 #[.slice pa n pc, .func (.func 63) #[] #[]] W fun e w' => e = .returned (.bool (!C6)) ∧ Below W.heap.size W w') := fun W hb => by rw [← hC6]; exact containsWrong_any _ _ W hz1 (h1.below hb)
  have HT : Hid (c.ans.length = n) := hn
  by_cases h32 : c.hash.size = 32
  rotate_left
  · have h32i : ¬ (c.hash.size : Int) = 32 := by omega
    have HF : Hid (replyOk c = false) := by show replyOk c = false; unfold replyOk; rw [decide_eq_false h32]; simp
    clear hC1 hC2 hC3 hC4 hC5 hC6 h1 hn hz hz1 h32 F1 F2 F3 F4 F5 F6
    unfold rpV
    go_enter Try.func25, Try.ntmps25
    go_wp2_with fail
    go_ret
    exact ⟨by rw [HF.out]; rfl, (Below.refl _ _).alloc (Nat.le_refl _) _⟩
  have h32i : (c.hash.size : Int) = 32 := by omega
  have HC : Hid (replyOk c = (C1 && (C2 && (C3 && (C4 && (C5 && (decide (c.ans.length ≤ 3) && (C6 && decide (c.sig.size = 15))))))))) := by
    show replyOk c = _
    unfold replyOk
    rw [hC1, hC2, hC3, hC4, hC5, hC6, decide_eq_true h32]
    cases C6 <;> simp
  clear hC1 hC2 hC3 hC4 hC5 hC6 h1 hn hz hz1 h32
  unfold rpV
  go_enter Try.func25, Try.ntmps25
  go_wp2_with fail
  obtain ⟨V0, hV⟩ : ∃ V, V = w.alloc (Obj.cells #[.string c.hash, .int .i64 c.nonce, .int .i64 c.time, .int .i64 c.next, .int .i64 c.plan, .int .i64 c.err, .slice pa n pc, .string c.sig] 44) := ⟨_, rfl⟩
  rw [← hV]
  have G0 : Hid (Below w.heap.size w V0 ∧ Blk V0 w.heap.size 44 #[.string c.hash, .int .i64 c.nonce, .int .i64 c.time, .int .i64 c.next, .int .i64 c.plan, .int .i64 c.err, .slice pa n pc, .string c.sig]) := by rw [hV]; exact ⟨(Below.refl _ _).alloc (Nat.le_refl _) _, Blk.new w _ _⟩
  clear hV
  refine (F1.out V0 G0.out.1).mono ?_
  rintro e V1 ⟨rfl, hb⟩
  have G1 : Hid (Below w.heap.size w V1 ∧ Blk V1 w.heap.size 44 #[.string c.hash, .int .i64 c.nonce, .int .i64 c.time, .int .i64 c.next, .int .i64 c.plan, .int .i64 c.err, .slice pa n pc, .string c.sig]) := ⟨G0.out.1.trans (hb.mono G0.out.1.size), G0.out.2.below hb G0.out.2.lt⟩
  clear hb F1 G0
  have d10 : V1.cell? ⟨w.heap.size, 0, none⟩ = some (.string c.hash) := G1.out.2.cell 0
  have d11 : V1.cell? ⟨w.heap.size, 1, none⟩ = some (.int .i64 c.nonce) := G1.out.2.cell 1
  have d12 : V1.cell? ⟨w.heap.size, 2, none⟩ = some (.int .i64 c.time) := G1.out.2.cell 2
  have d13 : V1.cell? ⟨w.heap.size, 3, none⟩ = some (.int .i64 c.next) := G1.out.2.cell 3
  have d14 : V1.cell? ⟨w.heap.size, 4, none⟩ = some (.int .i64 c.plan) := G1.out.2.cell 4
  have d15 : V1.cell? ⟨w.heap.size, 5, none⟩ = some (.int .i64 c.err) := G1.out.2.cell 5
  have d16 : V1.cell? ⟨w.heap.size, 6, none⟩ = some (.slice pa n pc) := G1.out.2.cell 6
  have d17 : V1.cell? ⟨w.heap.size, 7, none⟩ = some (.string c.sig) := G1.out.2.cell 7
  cases C1 with
  | false =>
    go_wp2_with fail
    go_ret
    exact ⟨by rw [HC.out]; simp, G1.out.1⟩
  | true =>
    go_wp2_with fail
    refine (F2.out V1 G1.out.1).mono ?_
    rintro e V2 ⟨rfl, hb⟩
    have G2 : Hid (Below w.heap.size w V2 ∧ Blk V2 w.heap.size 44 #[.string c.hash, .int .i64 c.nonce, .int .i64 c.time, .int .i64 c.next, .int .i64 c.plan, .int .i64 c.err, .slice pa n pc, .string c.sig]) := ⟨G1.out.1.trans (hb.mono G1.out.1.size), G1.out.2.below hb G1.out.2.lt⟩
    clear hb F2 G1
    have d20 : V2.cell? ⟨w.heap.size, 0, none⟩ = some (.string c.hash) := G2.out.2.cell 0
    have d21 : V2.cell? ⟨w.heap.size, 1, none⟩ = some (.int .i64 c.nonce) := G2.out.2.cell 1
    have d22 : V2.cell? ⟨w.heap.size, 2, none⟩ = some (.int .i64 c.time) := G2.out.2.cell 2
    have d23 : V2.cell? ⟨w.heap.size, 3, none⟩ = some (.int .i64 c.next) := G2.out.2.cell 3
    have d24 : V2.cell? ⟨w.heap.size, 4, none⟩ = some (.int .i64 c.plan) := G2.out.2.cell 4
    have d25 : V2.cell? ⟨w.heap.size, 5, none⟩ = some (.int .i64 c.err) := G2.out.2.cell 5
    have d26 : V2.cell? ⟨w.heap.size, 6, none⟩ = some (.slice pa n pc) := G2.out.2.cell 6
    have d27 : V2.cell? ⟨w.heap.size, 7, none⟩ = some (.string c.sig) := G2.out.2.cell 7
    cases C2 with
    | false =>
      go_wp2_with fail
      go_ret
      exact ⟨by rw [HC.out]; simp, G2.out.1⟩
    | true =>
      go_wp2_with fail
      refine (F3.out V2 G2.out.1).mono ?_
      rintro e V3 ⟨rfl, hb⟩
      have G3 : Hid (Below w.heap.size w V3 ∧ Blk V3 w.heap.size 44 #[.string c.hash, .int .i64 c.nonce, .int .i64 c.time, .int .i64 c.next, .int .i64 c.plan, .int .i64 c.err, .slice pa n pc, .string c.sig]) := ⟨G2.out.1.trans (hb.mono G2.out.1.size), G2.out.2.below hb G2.out.2.lt⟩
      clear hb F3 G2
      have d30 : V3.cell? ⟨w.heap.size, 0, none⟩ = some (.string c.hash) := G3.out.2.cell 0
      have d31 : V3.cell? ⟨w.heap.size, 1, none⟩ = some (.int .i64 c.nonce) := G3.out.2.cell 1
      have d32 : V3.cell? ⟨w.heap.size, 2, none⟩ = some (.int .i64 c.time) := G3.out.2.cell 2
      have d33 : V3.cell? ⟨w.heap.size, 3, none⟩ = some (.int .i64 c.next) := G3.out.2.cell 3
      have d34 : V3.cell? ⟨w.heap.size, 4, none⟩ = some (.int .i64 c.plan) := G3.out.2.cell 4
      have d35 : V3.cell? ⟨w.heap.size, 5, none⟩ = some (.int .i64 c.err) := G3.out.2.cell 5
      have d36 : V3.cell? ⟨w.heap.size, 6, none⟩ = some (.slice pa n pc) := G3.out.2.cell 6
      have d37 : V3.cell? ⟨w.heap.size, 7, none⟩ = some (.string c.sig) := G3.out.2.cell 7
      cases C3 with
      | false =>
        go_wp2_with fail
        go_ret
        exact ⟨by rw [HC.out]; simp, G3.out.1⟩
      | true =>
        go_wp2_with fail
        refine (F4.out V3 G3.out.1).mono ?_
        rintro e V4 ⟨rfl, hb⟩
        have G4 : Hid (Below w.heap.size w V4 ∧ Blk V4 w.heap.size 44 #[.string c.hash, .int .i64 c.nonce, .int .i64 c.time, .int .i64 c.next, .int .i64 c.plan, .int .i64 c.err, .slice pa n pc, .string c.sig]) := ⟨G3.out.1.trans (hb.mono G3.out.1.size), G3.out.2.below hb G3.out.2.lt⟩
        clear hb F4 G3
        have d40 : V4.cell? ⟨w.heap.size, 0, none⟩ = some (.string c.hash) := G4.out.2.cell 0
        have d41 : V4.cell? ⟨w.heap.size, 1, none⟩ = some (.int .i64 c.nonce) := G4.out.2.cell 1
        have d42 : V4.cell? ⟨w.heap.size, 2, none⟩ = some (.int .i64 c.time) := G4.out.2.cell 2
        have d43 : V4.cell? ⟨w.heap.size, 3, none⟩ = some (.int .i64 c.next) := G4.out.2.cell 3
        have d44 : V4.cell? ⟨w.heap.size, 4, none⟩ = some (.int .i64 c.plan) := G4.out.2.cell 4
        have d45 : V4.cell? ⟨w.heap.size, 5, none⟩ = some (.int .i64 c.err) := G4.out.2.cell 5
        have d46 : V4.cell? ⟨w.heap.size, 6, none⟩ = some (.slice pa n pc) := G4.out.2.cell 6
        have d47 : V4.cell? ⟨w.heap.size, 7, none⟩ = some (.string c.sig) := G4.out.2.cell 7
        cases C4 with
        | false =>
          go_wp2_with fail
          go_ret
          exact ⟨by rw [HC.out]; simp, G4.out.1⟩
        | true =>
          go_wp2_with fail
          refine (F5.out V4 G4.out.1).mono ?_
          rintro e V5 ⟨rfl, hb⟩
          have G5 : Hid (Below w.heap.size w V5 ∧ Blk V5 w.heap.size 44 #[.string c.hash, .int .i64 c.nonce, .int .i64 c.time, .int .i64 c.next, .int .i64 c.plan, .int .i64 c.err, .slice pa n pc, .string c.sig]) := ⟨G4.out.1.trans (hb.mono G4.out.1.size), G4.out.2.below hb G4.out.2.lt⟩
          clear hb F5 G4
          have d50 : V5.cell? ⟨w.heap.size, 0, none⟩ = some (.string c.hash) := G5.out.2.cell 0
          have d51 : V5.cell? ⟨w.heap.size, 1, none⟩ = some (.int .i64 c.nonce) := G5.out.2.cell 1
          have d52 : V5.cell? ⟨w.heap.size, 2, none⟩ = some (.int .i64 c.time) := G5.out.2.cell 2
          have d53 : V5.cell? ⟨w.heap.size, 3, none⟩ = some (.int .i64 c.next) := G5.out.2.cell 3
          have d54 : V5.cell? ⟨w.heap.size, 4, none⟩ = some (.int .i64 c.plan) := G5.out.2.cell 4
          have d55 : V5.cell? ⟨w.heap.size, 5, none⟩ = some (.int .i64 c.err) := G5.out.2.cell 5
          have d56 : V5.cell? ⟨w.heap.size, 6, none⟩ = some (.slice pa n pc) := G5.out.2.cell 6
          have d57 : V5.cell? ⟨w.heap.size, 7, none⟩ = some (.string c.sig) := G5.out.2.cell 7
          cases C5 with
          | false =>
            go_wp2_with fail
            go_ret
            exact ⟨by rw [HC.out]; simp, G5.out.1⟩
          | true =>
            by_cases h3 : n ≤ 3
            rotate_left
            · have h3i : ¬ (n : Int) ≤ 3 := by omega
              have HF : Hid (replyOk c = false) := by show replyOk c = false; rw [HC.out, decide_eq_false (by rw [HT.out]; exact h3)]; simp
              clear h3
              go_wp2_with fail
              go_ret
              exact ⟨by rw [HF.out]; rfl, G5.out.1⟩
            have h3i : (n : Int) ≤ 3 := by omega
            have HC3 : Hid (replyOk c = (C6 && decide (c.sig.size = 15))) := by show replyOk c = _; rw [HC.out, decide_eq_true (by rw [HT.out]; exact h3)]; simp
            clear HC h3
            go_wp2_with fail
            refine (F6.out V5 G5.out.1).mono ?_
            rintro e V6 ⟨rfl, hb⟩
            have G6 : Hid (Below w.heap.size w V6 ∧ Blk V6 w.heap.size 44 #[.string c.hash, .int .i64 c.nonce, .int .i64 c.time, .int .i64 c.next, .int .i64 c.plan, .int .i64 c.err, .slice pa n pc, .string c.sig]) := ⟨G5.out.1.trans (hb.mono G5.out.1.size), G5.out.2.below hb G5.out.2.lt⟩
            clear hb F6 G5
            have d60 : V6.cell? ⟨w.heap.size, 0, none⟩ = some (.string c.hash) := G6.out.2.cell 0
            have d61 : V6.cell? ⟨w.heap.size, 1, none⟩ = some (.int .i64 c.nonce) := G6.out.2.cell 1
            have d62 : V6.cell? ⟨w.heap.size, 2, none⟩ = some (.int .i64 c.time) := G6.out.2.cell 2
            have d63 : V6.cell? ⟨w.heap.size, 3, none⟩ = some (.int .i64 c.next) := G6.out.2.cell 3
            have d64 : V6.cell? ⟨w.heap.size, 4, none⟩ = some (.int .i64 c.plan) := G6.out.2.cell 4
            have d65 : V6.cell? ⟨w.heap.size, 5, none⟩ = some (.int .i64 c.err) := G6.out.2.cell 5
            have d66 : V6.cell? ⟨w.heap.size, 6, none⟩ = some (.slice pa n pc) := G6.out.2.cell 6
            have d67 : V6.cell? ⟨w.heap.size, 7, none⟩ = some (.string c.sig) := G6.out.2.cell 7
            cases C6 with
            | false =>
              go_wp2_with fail
              go_ret
              exact ⟨by rw [HC3.out]; simp, G6.out.1⟩
            | true =>
              by_cases h15 : c.sig.size = 15
              · have h15i : (c.sig.size : Int) = 15 := by omega
                have HF : Hid (replyOk c = true) := by show replyOk c = true; rw [HC3.out, decide_eq_true h15]; rfl
                clear h15
                go_wp2_with fail
                go_ret
                exact ⟨by rw [HF.out]; try rfl, G6.out.1⟩
              · have h15i : ¬ (c.sig.size : Int) = 15 := by omega
                have HF : Hid (replyOk c = false) := by show replyOk c = false; rw [HC3.out, decide_eq_false h15]; rfl
                clear h15
                go_wp2_with fail
                go_ret
                exact ⟨by rw [HF.out]; first | rfl | (show Ending.returned (.bool (decide ((c.sig.size : Int) = 15))) = _; rw [decide_eq_false h15i]) | simp [h15i], G6.out.1⟩
end Go.Proofs.Ytbiiihjohbnodaa
