/-
  Which replies are right; the specification's l15Texts, ReplyOk.
-/
import Derived.Test.YtbiiihjohbnodaaRpA
import Derived.Test.YtbiiihjohbnodaaAkQ
import Derived.Test.YtbiiihjohbnodaaCrE
import Derived.Test.YtbiiihjohbnodaaCrQ
import Derived.Deep.Cut
namespace Go.Proofs.Ytbiiihjohbnodaa
open Go.RowKit
set_option linter.unusedVariables false
set_option linter.unusedSimpArgs false

def awOk (x : Aw) : Bool := inB x.status 0 2 && (inB x.why 0 12 && (txOk x.path 5 && txOk x.lst 8))
def replyOk (c : Rp) : Bool := c.ans.all awOk && (decide (c.hash.size = 32) && (inB c.nonce 0 1000000000 && (inB c.time 0 19999 && (inB c.next 0 19999 && (inB c.plan 0 99 && (inB c.err 0 2 && (decide (c.ans.length ≤ 3) && decide (c.sig.size = 15))))))))
theorem awAll_no {l : List Aw} {k : Nat} (h : k < l.length) (h2 : awOk l[k] = false) : l.all awOk = false := by
  rw [List.all_eq_false]
  exact ⟨l[k], List.getElem_mem h, by rw [h2]; decide⟩
theorem awAll_yes {l : List Aw} (h : ∀ j (hj : j < l.length), awOk l[j] = true) : l.all awOk = true := by
  rw [List.all_eq_true]
  intro x hx
  obtain ⟨j, hj, rfl⟩ := List.getElem_of_mem hx
  exact h j hj
theorem AwAt.rows {w : World} {c : Aw} {p e : Value} (h : AwAt w (awV c p e) c) : TxtAt w p c.path ∧ TxtAt w e c.lst := by
  obtain ⟨p', e', hv, h1, h2⟩ := h
  unfold awV at hv
  injection hv with hv
  have e2 : p = p' := by have := congrArg (·[2]?) hv; simpa using this
  have e3 : e = e' := by have := congrArg (·[3]?) hv; simpa using this
  rw [e2, e3]
  exact ⟨h1, h2⟩
set_option maxHeartbeats 1600000 in
set_option maxRecDepth 100000 in
theorem texts15_any (l : List ByteArray) (v : Value) (m : Nat) (w : World) (hz : totT l ≤ 1000000000) (h1 : TxtAt w v l) :
    Calls Try.prog 61 #[v, .int .i64 (m : Int)] w fun e w' => e = .returned (.bool (txOk l m)) ∧ Below w.heap.size w w' := by
  obtain ⟨pa, pc, rfl, hcell⟩ := h1
  have hll := Nat.le_trans (tot_len l) hz
  obtain ⟨lp, hlp⟩ : ∃ n, l.length = n := ⟨_, rfl⟩
  have HT : Hid ((∀ j, j < l.length → ∃ g, pa = some ⟨g, 0, none⟩ ∧ g < w.heap.size ∧ w.cell? ⟨g, j, none⟩ = some (.string (l.getD j ByteArray.empty))) ∧ l.length = lp ∧ totT l ≤ 1000000000) := ⟨hcell, hlp, hz⟩
  rw [hlp] at hll ⊢
  clear hcell hlp hz
  go_enter Try.func61, Try.ntmps61
  go_wp2_with fail
  go_loopw [5] (fun iv wr => ∃ k : Nat, k ≤ lp ∧ iv = .int .i64 k ∧ Hid (∀ j, j < k → (l.getD j ByteArray.empty).size ≤ 400) ∧ Hid (Below w.heap.size w wr)) (fun iv _ => lp - (intOf iv).toNat)
  case atStart => exact ⟨0, Nat.zero_le _, rfl, fun j hj => absurd hj (Nat.not_lt_zero _), Below.refl _ _⟩
  case round =>
    obtain ⟨k, hk, rfl, HL, G1⟩ := hrel
    by_cases hlt : k < lp
    · obtain ⟨g, hpg, hgw, hcs⟩ := HT.out.1 k (by rw [HT.out.2.1]; exact hlt)
      have hc1 : wr.cell? ⟨g, k, none⟩ = some (.string (l.getD k ByteArray.empty)) := (G1.out.cell (p := ⟨g, k, none⟩) hgw).trans hcs
      have hsx : (l.getD k ByteArray.empty).size ≤ 1000000000 := by
        have hm : l.getD k ByteArray.empty ∈ l := by rw [List.getD_eq_getElem?_getD, List.getElem?_eq_getElem (by rw [HT.out.2.1]; exact hlt)]; exact List.getElem_mem _
        exact Nat.le_trans (tot_mem l _ hm) HT.out.2.2
      have hki : (k : Int) < (lp : Int) := by omega
      have hk0 : (0 : Int) ≤ (k : Int) := by omega
      obtain ⟨x, hx⟩ : ∃ x, l.getD k ByteArray.empty = x := ⟨_, rfl⟩
      rw [hx] at hc1 hsx
      have HX : Hid (l.getD k ByteArray.empty = x) := hx
      subst hpg
      clear hcs hx hgw
      by_cases h4 : x.size ≤ 400
      · have h4i : ¬ (400 : Int) < (x.size : Int) := by omega
        have HN : Hid (∀ j, j < k + 1 → (l.getD j ByteArray.empty).size ≤ 400) := fun j hj => by
          rcases Nat.lt_or_ge j k with h | h
          · exact HL.out j h
          · have : j = k := by omega
            subst this
            rw [HX.out]; exact h4
        clear HL
        go_wp2_with fail
        go_roundw
        case rel => exact ⟨k + 1, by omega, by go_num, HN, G1⟩
        case measure => simp [intOf]; omega
      · have h4i : (400 : Int) < (x.size : Int) := by omega
        have HF : Hid (txOk l m = false) := by
          show txOk l m = false
          unfold txOk
          rw [tg_no (k := k) (by rw [HT.out.2.1]; exact hlt) (by rw [HX.out]; exact h4)]; rfl
        go_wp2_with fail
        go_ret
        exact ⟨by rw [HF.out]; rfl, G1.out⟩
    · have hkl : lp = k := by omega
      subst hkl
      have HF : Hid (txOk l m = decide (lp ≤ m)) := by
        show txOk l m = _
        unfold txOk
        rw [tg_yes (fun j hj => HL.out j (by rw [← HT.out.2.1]; exact hj)), HT.out.2.1]
        rfl
      go_wp2_with fail
      go_ret
      exact ⟨by rw [HF.out]; try rfl, G1.out⟩
set_option maxHeartbeats 12800000 in
set_option maxRecDepth 100000 in
theorem specReplyOk_any (c : Rp) (v : Value) (w : World) (hz : wtR c ≤ 1000000000) (ha : RpAt w v c) :
    Calls Try.prog 23 #[v] w fun e w' => e = .returned (.bool (replyOk c)) ∧ Below w.heap.size w w' := by
  obtain ⟨pv, rfl, h1⟩ := ha
  obtain ⟨pa, pc, hpa⟩ := h1.shape
  obtain ⟨n, hn⟩ : ∃ l, c.ans.length = l := ⟨_, rfl⟩
  rw [hn] at hpa
  subst hpa
  have hz1 : wtAS c.ans ≤ 1000000000 := wtR_ans hz
  have hnl : n ≤ 1000000000 := by have := wtAS_len c.ans; omega
  have hsz : c.hash.size ≤ 1000000000 ∧ c.sig.size ≤ 1000000000 := by unfold wtR at hz; omega
  obtain ⟨C1, hC1⟩ : ∃ b, inB c.nonce 0 1000000000 = b := ⟨_, rfl⟩
  have F1 : Hid (∀ W, Below w.heap.size w W → Calls Try.prog 41 #[.int .i64 c.nonce, .int .i64 0, .int .i64 1000000000] W fun e w' => e = .returned (.bool C1) ∧ Below W.heap.size W w') := fun W hb => by rw [← hC1]; exact in_any _ _ _ W
  obtain ⟨C2, hC2⟩ : ∃ b, inB c.time 0 19999 = b := ⟨_, rfl⟩
  have F2 : Hid (∀ W, Below w.heap.size w W → Calls Try.prog 41 #[.int .i64 c.time, .int .i64 0, .int .i64 19999] W fun e w' => e = .returned (.bool C2) ∧ Below W.heap.size W w') := fun W hb => by rw [← hC2]; exact in_any _ _ _ W
  obtain ⟨C3, hC3⟩ : ∃ b, inB c.next 0 19999 = b := ⟨_, rfl⟩
  have F3 : Hid (∀ W, Below w.heap.size w W → Calls Try.prog 41 #[.int .i64 c.next, .int .i64 0, .int .i64 19999] W fun e w' => e = .returned (.bool C3) ∧ Below W.heap.size W w') := fun W hb => by rw [← hC3]; exact in_any _ _ _ W
  obtain ⟨C4, hC4⟩ : ∃ b, inB c.plan 0 99 = b := ⟨_, rfl⟩
  have F4 : Hid (∀ W, Below w.heap.size w W → Calls Try.prog 41 #[.int .i64 c.plan, .int .i64 0, .int .i64 99] W fun e w' => e = .returned (.bool C4) ∧ Below W.heap.size W w') := fun W hb => by rw [← hC4]; exact in_any _ _ _ W
  obtain ⟨C5, hC5⟩ : ∃ b, inB c.err 0 2 = b := ⟨_, rfl⟩
  have F5 : Hid (∀ W, Below w.heap.size w W → Calls Try.prog 41 #[.int .i64 c.err, .int .i64 0, .int .i64 2] W fun e w' => e = .returned (.bool C5) ∧ Below W.heap.size W w') := fun W hb => by rw [← hC5]; exact in_any _ _ _ W
  have HC0 : Hid (replyOk c = (c.ans.all awOk && (decide (c.hash.size = 32) && (C1 && (C2 && (C3 && (C4 && (C5 && (decide (c.ans.length ≤ 3) && decide (c.sig.size = 15)))))))))) := by show replyOk c = _; unfold replyOk; rw [hC1, hC2, hC3, hC4, hC5]
  have HT : Hid (AtS awKd w (.slice pa n pc) c.ans ∧ c.ans.length = n) := ⟨h1, hn⟩
  have HZ : Hid (wtAS c.ans ≤ 1000000000) := hz1
  clear hC1 hC2 hC3 hC4 hC5 h1 hn hz hz1
  unfold rpV
  go_enter Try.func23, Try.ntmps23
  go_wp2_with fail
  obtain ⟨V0, hV⟩ : ∃ V, V = w.alloc (Obj.cells #[.string c.hash, .int .i64 c.nonce, .int .i64 c.time, .int .i64 c.next, .int .i64 c.plan, .int .i64 c.err, .slice pa n pc, .string c.sig] 44) := ⟨_, rfl⟩
  rw [← hV]
  have G0 : Hid (Below w.heap.size w V0 ∧ Blk V0 w.heap.size 44 #[.string c.hash, .int .i64 c.nonce, .int .i64 c.time, .int .i64 c.next, .int .i64 c.plan, .int .i64 c.err, .slice pa n pc, .string c.sig]) := by rw [hV]; exact ⟨(Below.refl _ _).alloc (Nat.le_refl _) _, Blk.new w _ _⟩
  clear hV
  go_loopw [3] (fun iv wr => ∃ k : Nat, k ≤ n ∧ iv = .int .i64 k ∧ Hid (∀ j (hj : j < c.ans.length), j < k → awOk c.ans[j] = true) ∧ Hid (Below w.heap.size w wr ∧ Blk wr w.heap.size 44 #[.string c.hash, .int .i64 c.nonce, .int .i64 c.time, .int .i64 c.next, .int .i64 c.plan, .int .i64 c.err, .slice pa n pc, .string c.sig])) (fun iv _ => n - (intOf iv).toNat)
  case atStart => exact ⟨0, Nat.zero_le _, rfl, fun j _ hj => absurd hj (Nat.not_lt_zero _), G0⟩
  case round =>
    obtain ⟨k, hk, rfl, HL, G1⟩ := hrel
    clear G0
    have d6 : wr.cell? ⟨w.heap.size, 6, none⟩ = some (.slice pa n pc) := G1.out.2.cell 6
    by_cases hlt : k < n
    · have hkl : k < c.ans.length := by rw [HT.out.2]; exact hlt
      obtain ⟨b, off, u, hao, hbB, hPu, hus, hcell⟩ := HT.out.1.get hkl
      obtain ⟨p1, q1, e1, r1, hu⟩ := AwAt.shape hPu
      obtain ⟨x, hx⟩ : ∃ x, c.ans[k] = x := ⟨_, rfl⟩
      rw [hx] at hu
      have hxw : wtAw x ≤ 1000000000 := by rw [← hx]; exact Nat.le_trans (wtAS_mem (List.getElem_mem hkl)) HZ.out
      have hcb := fun i z (hz : u.cells[i]? = some z) => (G1.out.1.cell (p := ⟨b, off + k * 4 + i, none⟩) (by show b < w.heap.size; exact hbB)).trans (hcell i z hz)
      have HP : Hid (AwAt w u x) := by rw [← hx]; exact hPu
      subst hao hu
      have u0 : wr.cell? ⟨b, off + k * 4, none⟩ = some (.int .i64 x.status) := hcb 0 _ rfl
      have u1 : wr.cell? ⟨b, off + k * 4 + 1, none⟩ = some (.int .i64 x.why) := hcb 1 _ rfl
      have u2 : wr.cell? ⟨b, off + k * 4 + 2, none⟩ = some (.slice p1 x.path.length q1) := hcb 2 _ rfl
      have u3 : wr.cell? ⟨b, off + k * 4 + 3, none⟩ = some (.slice e1 x.lst.length r1) := hcb 3 _ rfl
      have hrows : TxtAt w (.slice p1 x.path.length q1) x.path ∧ TxtAt w (.slice e1 x.lst.length r1) x.lst := AwAt.rows HP.out
      have hwts : totT x.path ≤ 1000000000 ∧ totT x.lst ≤ 1000000000 := by unfold wtAw at hxw; omega
      obtain ⟨B1, hB1⟩ : ∃ b, inB x.status 0 2 = b := ⟨_, rfl⟩
      have E1 : Hid (∀ W, Below w.heap.size w W → Calls Try.prog 41 #[.int .i64 x.status, .int .i64 0, .int .i64 2] W fun e w' => e = .returned (.bool B1) ∧ Below W.heap.size W w') := fun W hb => by rw [← hB1]; exact in_any _ _ _ W
      obtain ⟨B2, hB2⟩ : ∃ b, inB x.why 0 12 = b := ⟨_, rfl⟩
      have E2 : Hid (∀ W, Below w.heap.size w W → Calls Try.prog 41 #[.int .i64 x.why, .int .i64 0, .int .i64 12] W fun e w' => e = .returned (.bool B2) ∧ Below W.heap.size W w') := fun W hb => by rw [← hB2]; exact in_any _ _ _ W
      obtain ⟨B3, hB3⟩ : ∃ b, txOk x.path 5 = b := ⟨_, rfl⟩
      have E3 : Hid (∀ W, Below w.heap.size w W → Calls Try.prog 61 #[.slice p1 x.path.length q1, .int .i64 5] W fun e w' => e = .returned (.bool B3) ∧ Below W.heap.size W w') := fun W hb => by rw [← hB3]; exact texts15_any x.path _ 5 W hwts.1 (hrows.1.below hb)
      obtain ⟨B4, hB4⟩ : ∃ b, txOk x.lst 8 = b := ⟨_, rfl⟩
      have E4 : Hid (∀ W, Below w.heap.size w W → Calls Try.prog 61 #[.slice e1 x.lst.length r1, .int .i64 8] W fun e w' => e = .returned (.bool B4) ∧ Below W.heap.size W w') := fun W hb => by rw [← hB4]; exact texts15_any x.lst _ 8 W hwts.2 (hrows.2.below hb)
      have HX : Hid (c.ans[k] = x ∧ awOk x = (B1 && (B2 && (B3 && B4)))) := ⟨hx, by unfold awOk; rw [hB1, hB2, hB3, hB4]⟩
      clear hB1 hB2 hB3 hB4 hrows hwts HP hcb hcell hPu hus hbB hx hxw
      have hki : (k : Int) < (n : Int) := by omega
      have hk0 : (0 : Int) ≤ (k : Int) := by omega
      obtain ⟨V2, hV⟩ : ∃ V, V = wr.alloc (Obj.cells #[.int .i64 x.status, .int .i64 x.why, .slice p1 x.path.length q1, .slice e1 x.lst.length r1] 84) := ⟨_, rfl⟩
      have G2 : Hid ((Below w.heap.size w V2 ∧ Blk V2 w.heap.size 44 #[.string c.hash, .int .i64 c.nonce, .int .i64 c.time, .int .i64 c.next, .int .i64 c.plan, .int .i64 c.err, .slice (some ⟨b, off, none⟩) n pc, .string c.sig]) ∧ Blk V2 wr.heap.size 84 #[.int .i64 x.status, .int .i64 x.why, .slice p1 x.path.length q1, .slice e1 x.lst.length r1]) := by
        have hb : Below wr.heap.size wr V2 := by rw [hV]; exact (Below.refl _ _).alloc (Nat.le_refl _) _
        exact ⟨⟨G1.out.1.trans (hb.mono G1.out.1.size), G1.out.2.below hb G1.out.2.lt⟩, by rw [hV]; exact Blk.new wr _ _⟩
      clear G1
      go_upto_region 5 with fail
      rw [← hV]
      clear hV u0 u1 u2 u3 d6
      have d20 : V2.cell? ⟨wr.heap.size, 0, none⟩ = some (.int .i64 x.status) := G2.out.2.cell 0
      have d21 : V2.cell? ⟨wr.heap.size, 1, none⟩ = some (.int .i64 x.why) := G2.out.2.cell 1
      have d22 : V2.cell? ⟨wr.heap.size, 2, none⟩ = some (.slice p1 x.path.length q1) := G2.out.2.cell 2
      have d23 : V2.cell? ⟨wr.heap.size, 3, none⟩ = some (.slice e1 x.lst.length r1) := G2.out.2.cell 3
      go_wp2_with fail
      refine (E1.out V2 G2.out.1.1).mono ?_
      rintro e V3 ⟨rfl, hb⟩
      have G3 : Hid ((Below w.heap.size w V3 ∧ Blk V3 w.heap.size 44 #[.string c.hash, .int .i64 c.nonce, .int .i64 c.time, .int .i64 c.next, .int .i64 c.plan, .int .i64 c.err, .slice (some ⟨b, off, none⟩) n pc, .string c.sig]) ∧ Blk V3 wr.heap.size 84 #[.int .i64 x.status, .int .i64 x.why, .slice p1 x.path.length q1, .slice e1 x.lst.length r1]) := ⟨⟨G2.out.1.1.trans (hb.mono G2.out.1.1.size), G2.out.1.2.below hb G2.out.1.2.lt⟩, G2.out.2.below hb G2.out.2.lt⟩
      clear hb E1 G2
      have d30 : V3.cell? ⟨wr.heap.size, 0, none⟩ = some (.int .i64 x.status) := G3.out.2.cell 0
      have d31 : V3.cell? ⟨wr.heap.size, 1, none⟩ = some (.int .i64 x.why) := G3.out.2.cell 1
      have d32 : V3.cell? ⟨wr.heap.size, 2, none⟩ = some (.slice p1 x.path.length q1) := G3.out.2.cell 2
      have d33 : V3.cell? ⟨wr.heap.size, 3, none⟩ = some (.slice e1 x.lst.length r1) := G3.out.2.cell 3
      cases B1 with
      | false =>
        have HF : Hid (replyOk c = false) := by rw [HC0.out, awAll_no hkl (by rw [HX.out.1, HX.out.2]; simp)]; rfl
        go_wp2_with fail
        go_ret
        exact ⟨by rw [HF.out]; rfl, G3.out.1.1⟩
      | true =>
        go_wp2_with fail
        refine (E2.out V3 G3.out.1.1).mono ?_
        rintro e V4 ⟨rfl, hb⟩
        have G4 : Hid ((Below w.heap.size w V4 ∧ Blk V4 w.heap.size 44 #[.string c.hash, .int .i64 c.nonce, .int .i64 c.time, .int .i64 c.next, .int .i64 c.plan, .int .i64 c.err, .slice (some ⟨b, off, none⟩) n pc, .string c.sig]) ∧ Blk V4 wr.heap.size 84 #[.int .i64 x.status, .int .i64 x.why, .slice p1 x.path.length q1, .slice e1 x.lst.length r1]) := ⟨⟨G3.out.1.1.trans (hb.mono G3.out.1.1.size), G3.out.1.2.below hb G3.out.1.2.lt⟩, G3.out.2.below hb G3.out.2.lt⟩
        clear hb E2 G3
        have d40 : V4.cell? ⟨wr.heap.size, 0, none⟩ = some (.int .i64 x.status) := G4.out.2.cell 0
        have d41 : V4.cell? ⟨wr.heap.size, 1, none⟩ = some (.int .i64 x.why) := G4.out.2.cell 1
        have d42 : V4.cell? ⟨wr.heap.size, 2, none⟩ = some (.slice p1 x.path.length q1) := G4.out.2.cell 2
        have d43 : V4.cell? ⟨wr.heap.size, 3, none⟩ = some (.slice e1 x.lst.length r1) := G4.out.2.cell 3
        cases B2 with
        | false =>
          have HF : Hid (replyOk c = false) := by rw [HC0.out, awAll_no hkl (by rw [HX.out.1, HX.out.2]; simp)]; rfl
          go_wp2_with fail
          go_ret
          exact ⟨by rw [HF.out]; rfl, G4.out.1.1⟩
        | true =>
          go_wp2_with fail
          refine (E3.out V4 G4.out.1.1).mono ?_
          rintro e V5 ⟨rfl, hb⟩
          have G5 : Hid ((Below w.heap.size w V5 ∧ Blk V5 w.heap.size 44 #[.string c.hash, .int .i64 c.nonce, .int .i64 c.time, .int .i64 c.next, .int .i64 c.plan, .int .i64 c.err, .slice (some ⟨b, off, none⟩) n pc, .string c.sig]) ∧ Blk V5 wr.heap.size 84 #[.int .i64 x.status, .int .i64 x.why, .slice p1 x.path.length q1, .slice e1 x.lst.length r1]) := ⟨⟨G4.out.1.1.trans (hb.mono G4.out.1.1.size), G4.out.1.2.below hb G4.out.1.2.lt⟩, G4.out.2.below hb G4.out.2.lt⟩
          clear hb E3 G4
          have d50 : V5.cell? ⟨wr.heap.size, 0, none⟩ = some (.int .i64 x.status) := G5.out.2.cell 0
          have d51 : V5.cell? ⟨wr.heap.size, 1, none⟩ = some (.int .i64 x.why) := G5.out.2.cell 1
          have d52 : V5.cell? ⟨wr.heap.size, 2, none⟩ = some (.slice p1 x.path.length q1) := G5.out.2.cell 2
          have d53 : V5.cell? ⟨wr.heap.size, 3, none⟩ = some (.slice e1 x.lst.length r1) := G5.out.2.cell 3
          cases B3 with
          | false =>
            have HF : Hid (replyOk c = false) := by rw [HC0.out, awAll_no hkl (by rw [HX.out.1, HX.out.2]; simp)]; rfl
            go_wp2_with fail
            go_ret
            exact ⟨by rw [HF.out]; rfl, G5.out.1.1⟩
          | true =>
            go_wp2_with fail
            refine (E4.out V5 G5.out.1.1).mono ?_
            rintro e V6 ⟨rfl, hb⟩
            have G6 : Hid ((Below w.heap.size w V6 ∧ Blk V6 w.heap.size 44 #[.string c.hash, .int .i64 c.nonce, .int .i64 c.time, .int .i64 c.next, .int .i64 c.plan, .int .i64 c.err, .slice (some ⟨b, off, none⟩) n pc, .string c.sig]) ∧ Blk V6 wr.heap.size 84 #[.int .i64 x.status, .int .i64 x.why, .slice p1 x.path.length q1, .slice e1 x.lst.length r1]) := ⟨⟨G5.out.1.1.trans (hb.mono G5.out.1.1.size), G5.out.1.2.below hb G5.out.1.2.lt⟩, G5.out.2.below hb G5.out.2.lt⟩
            clear hb E4 G5
            have d60 : V6.cell? ⟨wr.heap.size, 0, none⟩ = some (.int .i64 x.status) := G6.out.2.cell 0
            have d61 : V6.cell? ⟨wr.heap.size, 1, none⟩ = some (.int .i64 x.why) := G6.out.2.cell 1
            have d62 : V6.cell? ⟨wr.heap.size, 2, none⟩ = some (.slice p1 x.path.length q1) := G6.out.2.cell 2
            have d63 : V6.cell? ⟨wr.heap.size, 3, none⟩ = some (.slice e1 x.lst.length r1) := G6.out.2.cell 3
            cases B4 with
            | false =>
              have HF : Hid (replyOk c = false) := by rw [HC0.out, awAll_no hkl (by rw [HX.out.1, HX.out.2]; simp)]; rfl
              go_wp2_with fail
              go_ret
              exact ⟨by rw [HF.out]; rfl, G6.out.1.1⟩
            | true =>
              have HN : Hid (∀ j (hj : j < c.ans.length), j < k + 1 → awOk c.ans[j] = true) := fun j hj h => by
                rcases Nat.lt_or_ge j k with h | h
                · exact HL.out j hj h
                · have : j = k := by omega
                  subst this
                  rw [HX.out.1, HX.out.2]; rfl
              have GN : Hid (Below w.heap.size w V6 ∧ Blk V6 w.heap.size 44 #[.string c.hash, .int .i64 c.nonce, .int .i64 c.time, .int .i64 c.next, .int .i64 c.plan, .int .i64 c.err, .slice (some ⟨b, off, none⟩) n pc, .string c.sig]) := G6.out.1
              clear HL G6 HX
              go_wp2_with fail
              go_roundw
              case rel => exact ⟨k + 1, by omega, by go_num, HN, GN⟩
              case measure => simp [intOf]; omega
    · have hkl : n = k := by omega
      subst hkl
      have HC1 : Hid (replyOk c = (decide (c.hash.size = 32) && (C1 && (C2 && (C3 && (C4 && (C5 && (decide (c.ans.length ≤ 3) && decide (c.sig.size = 15))))))))) := by rw [HC0.out, awAll_yes (fun j hj => HL.out j hj (by rw [← HT.out.2]; exact hj))]; rfl
      clear HC0 HL
      have d10 : wr.cell? ⟨w.heap.size, 0, none⟩ = some (.string c.hash) := G1.out.2.cell 0
      have d11 : wr.cell? ⟨w.heap.size, 1, none⟩ = some (.int .i64 c.nonce) := G1.out.2.cell 1
      have d12 : wr.cell? ⟨w.heap.size, 2, none⟩ = some (.int .i64 c.time) := G1.out.2.cell 2
      have d13 : wr.cell? ⟨w.heap.size, 3, none⟩ = some (.int .i64 c.next) := G1.out.2.cell 3
      have d14 : wr.cell? ⟨w.heap.size, 4, none⟩ = some (.int .i64 c.plan) := G1.out.2.cell 4
      have d15 : wr.cell? ⟨w.heap.size, 5, none⟩ = some (.int .i64 c.err) := G1.out.2.cell 5
      have d17 : wr.cell? ⟨w.heap.size, 7, none⟩ = some (.string c.sig) := G1.out.2.cell 7
      by_cases h32 : c.hash.size = 32
      rotate_left
      · have h32i : ¬ (c.hash.size : Int) = 32 := by omega
        go_wp2_with fail
        go_ret
        exact ⟨by rw [HC1.out]; simp [h32], G1.out.1⟩
      have h32i : (c.hash.size : Int) = 32 := by omega
      have HC : Hid (replyOk c = (C1 && (C2 && (C3 && (C4 && (C5 && (decide (c.ans.length ≤ 3) && decide (c.sig.size = 15)))))))) := by show replyOk c = _; rw [HC1.out]; simp [h32]
      clear HC1
      go_wp2_with fail
      refine (F1.out wr G1.out.1).mono ?_
      rintro e V2 ⟨rfl, hb⟩
      have G2 : Hid (Below w.heap.size w V2 ∧ Blk V2 w.heap.size 44 #[.string c.hash, .int .i64 c.nonce, .int .i64 c.time, .int .i64 c.next, .int .i64 c.plan, .int .i64 c.err, .slice pa n pc, .string c.sig]) := ⟨G1.out.1.trans (hb.mono G1.out.1.size), G1.out.2.below hb G1.out.2.lt⟩
      clear hb F1 G1
      have d20 : V2.cell? ⟨w.heap.size, 0, none⟩ = some (.string c.hash) := G2.out.2.cell 0
      have d21 : V2.cell? ⟨w.heap.size, 1, none⟩ = some (.int .i64 c.nonce) := G2.out.2.cell 1
      have d22 : V2.cell? ⟨w.heap.size, 2, none⟩ = some (.int .i64 c.time) := G2.out.2.cell 2
      have d23 : V2.cell? ⟨w.heap.size, 3, none⟩ = some (.int .i64 c.next) := G2.out.2.cell 3
      have d24 : V2.cell? ⟨w.heap.size, 4, none⟩ = some (.int .i64 c.plan) := G2.out.2.cell 4
      have d25 : V2.cell? ⟨w.heap.size, 5, none⟩ = some (.int .i64 c.err) := G2.out.2.cell 5
      have d26 : V2.cell? ⟨w.heap.size, 6, none⟩ = some (.slice pa n pc) := G2.out.2.cell 6
      have d27 : V2.cell? ⟨w.heap.size, 7, none⟩ = some (.string c.sig) := G2.out.2.cell 7
      cases C1 with
      | false =>
        go_wp2_with fail
        go_ret
        exact ⟨by rw [HC.out]; simp, G2.out.1⟩
      | true =>
        go_wp2_with fail
        refine (F2.out V2 G2.out.1).mono ?_
        rintro e V3 ⟨rfl, hb⟩
        have G3 : Hid (Below w.heap.size w V3 ∧ Blk V3 w.heap.size 44 #[.string c.hash, .int .i64 c.nonce, .int .i64 c.time, .int .i64 c.next, .int .i64 c.plan, .int .i64 c.err, .slice pa n pc, .string c.sig]) := ⟨G2.out.1.trans (hb.mono G2.out.1.size), G2.out.2.below hb G2.out.2.lt⟩
        clear hb F2 G2
        have d30 : V3.cell? ⟨w.heap.size, 0, none⟩ = some (.string c.hash) := G3.out.2.cell 0
        have d31 : V3.cell? ⟨w.heap.size, 1, none⟩ = some (.int .i64 c.nonce) := G3.out.2.cell 1
        have d32 : V3.cell? ⟨w.heap.size, 2, none⟩ = some (.int .i64 c.time) := G3.out.2.cell 2
        have d33 : V3.cell? ⟨w.heap.size, 3, none⟩ = some (.int .i64 c.next) := G3.out.2.cell 3
        have d34 : V3.cell? ⟨w.heap.size, 4, none⟩ = some (.int .i64 c.plan) := G3.out.2.cell 4
        have d35 : V3.cell? ⟨w.heap.size, 5, none⟩ = some (.int .i64 c.err) := G3.out.2.cell 5
        have d36 : V3.cell? ⟨w.heap.size, 6, none⟩ = some (.slice pa n pc) := G3.out.2.cell 6
        have d37 : V3.cell? ⟨w.heap.size, 7, none⟩ = some (.string c.sig) := G3.out.2.cell 7
        cases C2 with
        | false =>
          go_wp2_with fail
          go_ret
          exact ⟨by rw [HC.out]; simp, G3.out.1⟩
        | true =>
          go_wp2_with fail
          refine (F3.out V3 G3.out.1).mono ?_
          rintro e V4 ⟨rfl, hb⟩
          have G4 : Hid (Below w.heap.size w V4 ∧ Blk V4 w.heap.size 44 #[.string c.hash, .int .i64 c.nonce, .int .i64 c.time, .int .i64 c.next, .int .i64 c.plan, .int .i64 c.err, .slice pa n pc, .string c.sig]) := ⟨G3.out.1.trans (hb.mono G3.out.1.size), G3.out.2.below hb G3.out.2.lt⟩
          clear hb F3 G3
          have d40 : V4.cell? ⟨w.heap.size, 0, none⟩ = some (.string c.hash) := G4.out.2.cell 0
          have d41 : V4.cell? ⟨w.heap.size, 1, none⟩ = some (.int .i64 c.nonce) := G4.out.2.cell 1
          have d42 : V4.cell? ⟨w.heap.size, 2, none⟩ = some (.int .i64 c.time) := G4.out.2.cell 2
          have d43 : V4.cell? ⟨w.heap.size, 3, none⟩ = some (.int .i64 c.next) := G4.out.2.cell 3
          have d44 : V4.cell? ⟨w.heap.size, 4, none⟩ = some (.int .i64 c.plan) := G4.out.2.cell 4
          have d45 : V4.cell? ⟨w.heap.size, 5, none⟩ = some (.int .i64 c.err) := G4.out.2.cell 5
          have d46 : V4.cell? ⟨w.heap.size, 6, none⟩ = some (.slice pa n pc) := G4.out.2.cell 6
          have d47 : V4.cell? ⟨w.heap.size, 7, none⟩ = some (.string c.sig) := G4.out.2.cell 7
          cases C3 with
          | false =>
            go_wp2_with fail
            go_ret
            exact ⟨by rw [HC.out]; simp, G4.out.1⟩
          | true =>
            go_wp2_with fail
            refine (F4.out V4 G4.out.1).mono ?_
            rintro e V5 ⟨rfl, hb⟩
            have G5 : Hid (Below w.heap.size w V5 ∧ Blk V5 w.heap.size 44 #[.string c.hash, .int .i64 c.nonce, .int .i64 c.time, .int .i64 c.next, .int .i64 c.plan, .int .i64 c.err, .slice pa n pc, .string c.sig]) := ⟨G4.out.1.trans (hb.mono G4.out.1.size), G4.out.2.below hb G4.out.2.lt⟩
            clear hb F4 G4
            have d50 : V5.cell? ⟨w.heap.size, 0, none⟩ = some (.string c.hash) := G5.out.2.cell 0
            have d51 : V5.cell? ⟨w.heap.size, 1, none⟩ = some (.int .i64 c.nonce) := G5.out.2.cell 1
            have d52 : V5.cell? ⟨w.heap.size, 2, none⟩ = some (.int .i64 c.time) := G5.out.2.cell 2
            have d53 : V5.cell? ⟨w.heap.size, 3, none⟩ = some (.int .i64 c.next) := G5.out.2.cell 3
            have d54 : V5.cell? ⟨w.heap.size, 4, none⟩ = some (.int .i64 c.plan) := G5.out.2.cell 4
            have d55 : V5.cell? ⟨w.heap.size, 5, none⟩ = some (.int .i64 c.err) := G5.out.2.cell 5
            have d56 : V5.cell? ⟨w.heap.size, 6, none⟩ = some (.slice pa n pc) := G5.out.2.cell 6
            have d57 : V5.cell? ⟨w.heap.size, 7, none⟩ = some (.string c.sig) := G5.out.2.cell 7
            cases C4 with
            | false =>
              go_wp2_with fail
              go_ret
              exact ⟨by rw [HC.out]; simp, G5.out.1⟩
            | true =>
              go_wp2_with fail
              refine (F5.out V5 G5.out.1).mono ?_
              rintro e V6 ⟨rfl, hb⟩
              have G6 : Hid (Below w.heap.size w V6 ∧ Blk V6 w.heap.size 44 #[.string c.hash, .int .i64 c.nonce, .int .i64 c.time, .int .i64 c.next, .int .i64 c.plan, .int .i64 c.err, .slice pa n pc, .string c.sig]) := ⟨G5.out.1.trans (hb.mono G5.out.1.size), G5.out.2.below hb G5.out.2.lt⟩
              clear hb F5 G5
              have d60 : V6.cell? ⟨w.heap.size, 0, none⟩ = some (.string c.hash) := G6.out.2.cell 0
              have d61 : V6.cell? ⟨w.heap.size, 1, none⟩ = some (.int .i64 c.nonce) := G6.out.2.cell 1
              have d62 : V6.cell? ⟨w.heap.size, 2, none⟩ = some (.int .i64 c.time) := G6.out.2.cell 2
              have d63 : V6.cell? ⟨w.heap.size, 3, none⟩ = some (.int .i64 c.next) := G6.out.2.cell 3
              have d64 : V6.cell? ⟨w.heap.size, 4, none⟩ = some (.int .i64 c.plan) := G6.out.2.cell 4
              have d65 : V6.cell? ⟨w.heap.size, 5, none⟩ = some (.int .i64 c.err) := G6.out.2.cell 5
              have d66 : V6.cell? ⟨w.heap.size, 6, none⟩ = some (.slice pa n pc) := G6.out.2.cell 6
              have d67 : V6.cell? ⟨w.heap.size, 7, none⟩ = some (.string c.sig) := G6.out.2.cell 7
              cases C5 with
              | false =>
                go_wp2_with fail
                go_ret
                exact ⟨by rw [HC.out]; simp, G6.out.1⟩
              | true =>
                by_cases h3 : c.ans.length ≤ 3
                · have h3i : (n : Int) ≤ 3 := by have := HT.out.2; omega
                  by_cases h15 : c.sig.size = 15
                  · have h15i : (c.sig.size : Int) = 15 := by omega
                    go_wp2_with fail
                    go_ret
                    exact ⟨by rw [HC.out]; simp [h3, h15]; try omega, G6.out.1⟩
                  · have h15i : ¬ (c.sig.size : Int) = 15 := by omega
                    go_wp2_with fail
                    go_ret
                    exact ⟨by rw [HC.out]; simp [h3, h15]; try omega, G6.out.1⟩
                · have h3i : ¬ (n : Int) ≤ 3 := by have := HT.out.2; omega
                  go_wp2_with fail
                  go_ret
                  exact ⟨by rw [HC.out]; simp [h3]; try omega, G6.out.1⟩
end Go.Proofs.Ytbiiihjohbnodaa
