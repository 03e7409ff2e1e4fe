/-
  Texts of the proof.
-/
import Derived.Deep.Cut
import Derived.Test.YtbiiihjohbnodaaMRV17
set_option maxRecDepth 100000
set_option maxHeartbeats 25600000
namespace Go.Proofs.Ytbiiihjohbnodaa
open Go.RowKit
set_option linter.unusedVariables false
set_option linter.unusedSimpArgs false
def awOk (x : Aw) : Bool := inB x.status 0 2 && (inB x.why 0 12 && (txOk x.path 5 && txOk x.lst 8))
def replyOk (c : Rp) : Bool := c.ans.all awOk && (decide (c.hash.size = 32) && (inB c.nonce 0 1000000000 && (inB c.time 0 19999 && (inB c.next 0 19999 && (inB c.plan 0 99 && (inB c.err 0 2 && (decide (c.ans.length <= 3) && decide (c.sig.size = 15))))))))
theorem awAll_no {l : List Aw} {k : Nat} (h : k < l.length) (h2 : awOk l[k] = false) : l.all awOk = false := by
 rw [List.all_eq_false]
 exact ⟨l[k], List.getElem_mem h, by rw [h2]; decide⟩
theorem awAll_yes {l : List Aw} (h : ∀ j (hj : j < l.length), awOk l[j] = true) : l.all awOk = true := by
 rw [List.all_eq_true]
 intro x hx
 obtain ⟨j, hj, rfl⟩ := List.getElem_of_mem hx
 exact h j hj
theorem AwAt.rows {w : World} {c : Aw} {p e : Value} (h : AwAt w (awV c p e) c) : TxtAt w p c.path /\ TxtAt w e c.lst := by
 obtain ⟨p', e', hv, h1, h2⟩ := h
 unfold awV at hv
 injection hv with hv
 have e2 : p = p' := by have := congrArg (·[2]?) hv; simpa using this
 have e3 : e = e' := by have := congrArg (·[3]?) hv; simpa using this
 rw [e2, e3]
 exact ⟨h1, h2⟩
theorem texts15_any (l : List ByteArray) (v : Value) (m : Nat) (w : World) (hz : totT l <= 1000000000) (h1 : TxtAt w v l) :
  Calls Try.prog 61 #[v, .int .i64 (m : Int)] w fun e w' => e = .returned (.bool (txOk l m)) /\ Below w.heap.size w w' := by
 obtain ⟨pa, pc, rfl, hcell⟩ := h1
 have hll := Nat.le_trans (tot_len l) hz
 obtain ⟨lp, hlp⟩ := zE (l.length)
 have HT : Hid ((∀ j, j < l.length -> ∃ g, pa = some ⟨g, 0, none⟩ /\ g < w.heap.size /\ w.cell? ⟨g, j, none⟩ = some (.string (l.getD j ByteArray.empty))) /\ l.length = lp /\ totT l <= 1000000000) := ⟨hcell, hlp, hz⟩
 rw [hlp] at hll |-
 clear hcell hlp hz
 go_enter Try.func61, Try.ntmps61
 go_wp2_with fail
 go_loopw [5] (fun iv wr => ∃ k : Nat, k <= lp /\ iv = .int .i64 k /\ Hid (∀ j, j < k -> (l.getD j ByteArray.empty).size <= 400) /\ Hid (Below w.heap.size w wr)) (fun iv _ => lp - (intOf iv).toNat)
 case atStart => exact ⟨0, Nat.zero_le _, rfl, fun j hj => absurd hj (Nat.not_lt_zero _), Below.refl _ _⟩
 case round =>
  obtain ⟨k, hk, rfl, HL, G1⟩ := hrel
  by_cases hlt : k < lp
  ·obtain ⟨g, hpg, hgw, hcs⟩ := HT.out.1 k (by rw [HT.out.2.1]; exact hlt)
   have hc1 : wr.cell? ⟨g, k, none⟩ = some (.string (l.getD k ByteArray.empty)) := (G1.out.cell (p := ⟨g, k, none⟩) hgw).trans hcs
   have hsx : (l.getD k ByteArray.empty).size <= 1000000000 := by
    have hm : l.getD k ByteArray.empty ∈ l := by rw [List.getD_eq_getElem?_getD, List.getElem?_eq_getElem (by rw [HT.out.2.1]; exact hlt)]; exact List.getElem_mem _
    exact Nat.le_trans (tot_mem l _ hm) HT.out.2.2
   have hki : (k : Int) < (lp : Int) := by omega
   have hk0 : (0 : Int) <= (k : Int) := by omega
   obtain ⟨x, hx⟩ := zE (l.getD k ByteArray.empty)
   rw [hx] at hc1 hsx
   have HX : Hid (l.getD k ByteArray.empty = x) := hx
   subst hpg
   clear hcs hx hgw
   by_cases h4 : x.size <= 400
   ·have h4i : ¬ (400 : Int) < (x.size : Int) := by omega
    have HN : Hid (∀ j, j < k + 1 -> (l.getD j ByteArray.empty).size <= 400) := fun j hj => by
     rcases Nat.lt_or_ge j k with h | h
     ·exact HL.out j h
     ·have : j = k := by omega
      subst this
      rw [HX.out]; exact h4
    clear HL
    go_wp2_with fail
    go_roundw
    case rel => exact ⟨k + 1, by omega, by go_num, HN, G1⟩
    case measure => simp [intOf]; omega
   ·have h4i : (400 : Int) < (x.size : Int) := by omega
    have HF : Hid (txOk l m = false) := by
     show txOk l m = false
     unfold txOk
     rw [tg_no (k := k) (by rw [HT.out.2.1]; exact hlt) (by rw [HX.out]; exact h4)]; rfl
    go_wp2_with fail
    go_ret
    exact ⟨by rw [HF.out]; rfl, G1.out⟩
  ·have hkl : lp = k := by omega
   subst hkl
   have HF : Hid (txOk l m = decide (lp <= m)) := by
    show txOk l m = _
    unfold txOk
    rw [tg_yes (fun j hj => HL.out j (by rw [<- HT.out.2.1]; exact hj)), HT.out.2.1]
    rfl
   go_wp2_with fail
   go_ret
   exact ⟨by rw [HF.out]; try rfl, G1.out⟩
theorem specReplyOk_any (c : Rp) (v : Value) (w : World) (hz : wtR c <= 1000000000) (ha : RpAt w v c) :
  Calls Try.prog 23 #[v] w fun e w' => e = .returned (.bool (replyOk c)) /\ Below w.heap.size w w' := by
 obtain ⟨pv, rfl, h1⟩ := ha
 obtain ⟨pa, pc, hpa⟩ := h1.shape
 obtain ⟨n, hn⟩ := zE (c.ans.length)
 rw [hn] at hpa
 subst hpa
 have hz1 : wtAS c.ans <= 1000000000 := wtR_ans hz
 have hnl : n <= 1000000000 := by have := wtAS_len c.ans; omega
 have hsz : c.hash.size <= 1000000000 /\ c.sig.size <= 1000000000 := by unfold wtR at hz; omega
 obtain ⟨C1, hC1⟩ := zE (inB c.nonce 0 1000000000)
 have F1 : Hid (∀ W, Below w.heap.size w W -> Calls Try.prog 41 #[.int .i64 c.nonce, .int .i64 0, .int .i64 1000000000] W fun e w' => e = .returned (.bool C1) /\ Below W.heap.size W w') := fun W hb => by rw [<- hC1]; exact in_any _ _ _ W
 obtain ⟨C2, hC2⟩ := zE (inB c.time 0 19999)
 have F2 : Hid (∀ W, Below w.heap.size w W -> Calls Try.prog 41 #[.int .i64 c.time, .int .i64 0, .int .i64 19999] W fun e w' => e = .returned (.bool C2) /\ Below W.heap.size W w') := fun W hb => by rw [<- hC2]; exact in_any _ _ _ W
 obtain ⟨C3, hC3⟩ := zE (inB c.next 0 19999)
 have F3 : Hid (∀ W, Below w.heap.size w W -> Calls Try.prog 41 #[.int .i64 c.next, .int .i64 0, .int .i64 19999] W fun e w' => e = .returned (.bool C3) /\ Below W.heap.size W w') := fun W hb => by rw [<- hC3]; exact in_any _ _ _ W
 obtain ⟨C4, hC4⟩ := zE (inB c.plan 0 99)
 have F4 : Hid (∀ W, Below w.heap.size w W -> Calls Try.prog 41 #[.int .i64 c.plan, .int .i64 0, .int .i64 99] W fun e w' => e = .returned (.bool C4) /\ Below W.heap.size W w') := fun W hb => by rw [<- hC4]; exact in_any _ _ _ W
 obtain ⟨C5, hC5⟩ := zE (inB c.err 0 2)
 have F5 : Hid (∀ W, Below w.heap.size w W -> Calls Try.prog 41 #[.int .i64 c.err, .int .i64 0, .int .i64 2] W fun e w' => e = .returned (.bool C5) /\ Below W.heap.size W w') := fun W hb => by rw [<- hC5]; exact in_any _ _ _ W
 have HC0 : Hid (replyOk c = (c.ans.all awOk && (decide (c.hash.size = 32) && (C1 && (C2 && (C3 && (C4 && (C5 && (decide (c.ans.length <= 3) && decide (c.sig.size = 15)))))))))) := by show replyOk c = _; unfold replyOk; rw [hC1, hC2, hC3, hC4, hC5]
 have HT : Hid (AtS awKd w (.slice pa n pc) c.ans /\ c.ans.length = n) := ⟨h1, hn⟩
 have HZ : Hid (wtAS c.ans <= 1000000000) := hz1
 clear hC1 hC2 hC3 hC4 hC5 h1 hn hz hz1
 unfold rpV
 go_enter Try.func23, Try.ntmps23
 go_wp2_with fail
 obtain ⟨V0, hV⟩ : ∃ V, V = w.alloc (Obj.cells #[.string c.hash, .int .i64 c.nonce, .int .i64 c.time, .int .i64 c.next, .int .i64 c.plan, .int .i64 c.err, .slice pa n pc, .string c.sig] 44) := ⟨_, rfl⟩
 rw [<- hV]
 have G0 : Hid (Below w.heap.size w V0 /\ Blk V0 w.heap.size 44 #[.string c.hash, .int .i64 c.nonce, .int .i64 c.time, .int .i64 c.next, .int .i64 c.plan, .int .i64 c.err, .slice pa n pc, .string c.sig]) := by rw [hV]; exact ⟨(Below.refl _ _).alloc (Nat.le_refl _) _, Blk.new w _ _⟩
 clear hV
 go_loopw [3] (fun iv wr => ∃ k : Nat, k <= n /\ iv = .int .i64 k /\ Hid (∀ j (hj : j < c.ans.length), j < k -> awOk c.ans[j] = true) /\ Hid (Below w.heap.size w wr /\ Blk wr w.heap.size 44 #[.string c.hash, .int .i64 c.nonce, .int .i64 c.time, .int .i64 c.next, .int .i64 c.plan, .int .i64 c.err, .slice pa n pc, .string c.sig])) (fun iv _ => n - (intOf iv).toNat)
 case atStart => exact ⟨0, Nat.zero_le _, rfl, fun j _ hj => absurd hj (Nat.not_lt_zero _), G0⟩
 case round =>
  obtain ⟨k, hk, rfl, HL, G1⟩ := hrel
  clear G0
  have d6 : wr.cell? ⟨w.heap.size, 6, none⟩ = some (.slice pa n pc) := G1.out.2.cell 6
  by_cases hlt : k < n
  ·have hkl : k < c.ans.length := by rw [HT.out.2]; exact hlt
   obtain ⟨b, off, u, hao, hbB, hPu, hus, hcell⟩ := HT.out.1.get hkl
   obtain ⟨p1, q1, e1, r1, hu⟩ := AwAt.shape hPu
   obtain ⟨x, hx⟩ := zE (c.ans[k])
   rw [hx] at hu
   have hxw : wtAw x <= 1000000000 := by rw [<- hx]; exact Nat.le_trans (wtAS_mem (List.getElem_mem hkl)) HZ.out
   have hcb := fun i z (hz : u.cells[i]? = some z) => (G1.out.1.cell (p := ⟨b, off + k * 4 + i, none⟩) (by show b < w.heap.size; exact hbB)).trans (hcell i z hz)
   have HP : Hid (AwAt w u x) := by rw [<- hx]; exact hPu
   subst hao hu
   have u0 : wr.cell? ⟨b, off + k * 4, none⟩ = some (.int .i64 x.status) := hcb 0 _ rfl
   have u1 : wr.cell? ⟨b, off + k * 4 + 1, none⟩ = some (.int .i64 x.why) := hcb 1 _ rfl
   have u2 : wr.cell? ⟨b, off + k * 4 + 2, none⟩ = some (.slice p1 x.path.length q1) := hcb 2 _ rfl
   have u3 : wr.cell? ⟨b, off + k * 4 + 3, none⟩ = some (.slice e1 x.lst.length r1) := hcb 3 _ rfl
   have hrows : TxtAt w (.slice p1 x.path.length q1) x.path /\ TxtAt w (.slice e1 x.lst.length r1) x.lst := AwAt.rows HP.out
   have hwts : totT x.path <= 1000000000 /\ totT x.lst <= 1000000000 := by unfold wtAw at hxw; omega
   obtain ⟨B1, hB1⟩ := zE (inB x.status 0 2)
   have E1 : Hid (∀ W, Below w.heap.size w W -> Calls Try.prog 41 #[.int .i64 x.status, .int .i64 0, .int .i64 2] W fun e w' => e = .returned (.bool B1) /\ Below W.heap.size W w') := fun W hb => by rw [<- hB1]; exact in_any _ _ _ W
   obtain ⟨B2, hB2⟩ := zE (inB x.why 0 12)
   have E2 : Hid (∀ W, Below w.heap.size w W -> Calls Try.prog 41 #[.int .i64 x.why, .int .i64 0, .int .i64 12] W fun e w' => e = .returned (.bool B2) /\ Below W.heap.size W w') := fun W hb => by rw [<- hB2]; exact in_any _ _ _ W
   obtain ⟨B3, hB3⟩ := zE (txOk x.path 5)
   have E3 : Hid (∀ W, Below w.heap.size w W -> Calls Try.prog 61 #[.slice p1 x.path.length q1, .int .i64 5] W fun e w' => e = .returned (.bool B3) /\ Below W.heap.size W w') := fun W hb => by rw [<- hB3]; exact texts15_any x.path _ 5 W hwts.1 (hrows.1.below hb)
   obtain ⟨B4, hB4⟩ := zE (txOk x.lst 8)
   have E4 : Hid (∀ W, Below w.heap.size w W -> Calls Try.prog 61 #[.slice e1 x.lst.length r1, .int .i64 8] W fun e w' => e = .returned (.bool B4) /\ Below W.heap.size W w') := fun W hb => by rw [<- hB4]; exact texts15_any x.lst _ 8 W hwts.2 (hrows.2.below hb)
   have HX : Hid (c.ans[k] = x /\ awOk x = (B1 && (B2 && (B3 && B4)))) := ⟨hx, by unfold awOk; rw [hB1, hB2, hB3, hB4]⟩
   clear hB1 hB2 hB3 hB4 hrows hwts HP hcb hcell hPu hus hbB hx hxw
   have hki : (k : Int) < (n : Int) := by omega
   have hk0 : (0 : Int) <= (k : Int) := by omega
   obtain ⟨V2, hV⟩ : ∃ V, V = wr.alloc (Obj.cells #[.int .i64 x.status, .int .i64 x.why, .slice p1 x.path.length q1, .slice e1 x.lst.length r1] 84) := ⟨_, rfl⟩
   have G2 : Hid ((Below w.heap.size w V2 /\ Blk V2 w.heap.size 44 #[.string c.hash, .int .i64 c.nonce, .int .i64 c.time, .int .i64 c.next, .int .i64 c.plan, .int .i64 c.err, .slice (some ⟨b, off, none⟩) n pc, .string c.sig]) /\ Blk V2 wr.heap.size 84 #[.int .i64 x.status, .int .i64 x.why, .slice p1 x.path.length q1, .slice e1 x.lst.length r1]) := by
    have hb : Below wr.heap.size wr V2 := by rw [hV]; exact (Below.refl _ _).alloc (Nat.le_refl _) _
    exact ⟨⟨G1.out.1.trans (hb.mono G1.out.1.size), G1.out.2.below hb G1.out.2.lt⟩, by rw [hV]; exact Blk.new wr _ _⟩
   clear G1
   go_upto_region 5 with fail
   rw [<- hV]
   clear hV u0 u1 u2 u3 d6
   have d20 : V2.cell? ⟨wr.heap.size, 0, none⟩ = some (.int .i64 x.status) := G2.out.2.cell 0
   have d21 : V2.cell? ⟨wr.heap.size, 1, none⟩ = some (.int .i64 x.why) := G2.out.2.cell 1
   have d22 : V2.cell? ⟨wr.heap.size, 2, none⟩ = some (.slice p1 x.path.length q1) := G2.out.2.cell 2
   have d23 : V2.cell? ⟨wr.heap.size, 3, none⟩ = some (.slice e1 x.lst.length r1) := G2.out.2.cell 3
   go_wp2_with fail
   refine (E1.out V2 G2.out.1.1).mono ?_
   rintro e V3 ⟨rfl, hb⟩
   have G3 : Hid ((Below w.heap.size w V3 /\ Blk V3 w.heap.size 44 #[.string c.hash, .int .i64 c.nonce, .int .i64 c.time, .int .i64 c.next, .int .i64 c.plan, .int .i64 c.err, .slice (some ⟨b, off, none⟩) n pc, .string c.sig]) /\ Blk V3 wr.heap.size 84 #[.int .i64 x.status, .int .i64 x.why, .slice p1 x.path.length q1, .slice e1 x.lst.length r1]) := ⟨⟨G2.out.1.1.trans (hb.mono G2.out.1.1.size), G2.out.1.2.below hb G2.out.1.2.lt⟩, G2.out.2.below hb G2.out.2.lt⟩
   clear hb E1 G2
   have d30 : V3.cell? ⟨wr.heap.size, 0, none⟩ = some (.int .i64 x.status) := G3.out.2.cell 0
   have d31 : V3.cell? ⟨wr.heap.size, 1, none⟩ = some (.int .i64 x.why) := G3.out.2.cell 1
   have d32 : V3.cell? ⟨wr.heap.size, 2, none⟩ = some (.slice p1 x.path.length q1) := G3.out.2.cell 2
   have d33 : V3.cell? ⟨wr.heap.size, 3, none⟩ = some (.slice e1 x.lst.length r1) := G3.out.2.cell 3
   cases B1 with
   | false =>
    have HF : Hid (replyOk c = false) := by rw [HC0.out, awAll_no hkl (by rw [HX.out.1, HX.out.2]; simp)]; rfl
    go_wp2_with fail
    go_ret
    exact ⟨by rw [HF.out]; rfl, G3.out.1.1⟩
   | true =>
    go_wp2_with fail
    refine (E2.out V3 G3.out.1.1).mono ?_
    rintro e V4 ⟨rfl, hb⟩
    have G4 : Hid ((Below w.heap.size w V4 /\ Blk V4 w.heap.size 44 #[.string c.hash, .int .i64 c.nonce, .int .i64 c.time, .int .i64 c.next, .int .i64 c.plan, .int .i64 c.err, .slice (some ⟨b, off, none⟩) n pc, .string c.sig]) /\ Blk V4 wr.heap.size 84 #[.int .i64 x.status, .int .i64 x.why, .slice p1 x.path.length q1, .slice e1 x.lst.length r1]) := ⟨⟨G3.out.1.1.trans (hb.mono G3.out.1.1.size), G3.out.1.2.below hb G3.out.1.2.lt⟩, G3.out.2.below hb G3.out.2.lt⟩
    clear hb E2 G3
    have d40 : V4.cell? ⟨wr.heap.size, 0, none⟩ = some (.int .i64 x.status) := G4.out.2.cell 0
    have d41 : V4.cell? ⟨wr.heap.size, 1, none⟩ = some (.int .i64 x.why) := G4.out.2.cell 1
    have d42 : V4.cell? ⟨wr.heap.size, 2, none⟩ = some (.slice p1 x.path.length q1) := G4.out.2.cell 2
    have d43 : V4.cell? ⟨wr.heap.size, 3, none⟩ = some (.slice e1 x.lst.length r1) := G4.out.2.cell 3
    cases B2 with
    | false =>
     have HF : Hid (replyOk c = false) := by rw [HC0.out, awAll_no hkl (by rw [HX.out.1, HX.out.2]; simp)]; rfl
     go_wp2_with fail
     go_ret
     exact ⟨by rw [HF.out]; rfl, G4.out.1.1⟩
    | true =>
     go_wp2_with fail
     refine (E3.out V4 G4.out.1.1).mono ?_
     rintro e V5 ⟨rfl, hb⟩
     have G5 : Hid ((Below w.heap.size w V5 /\ Blk V5 w.heap.size 44 #[.string c.hash, .int .i64 c.nonce, .int .i64 c.time, .int .i64 c.next, .int .i64 c.plan, .int .i64 c.err, .slice (some ⟨b, off, none⟩) n pc, .string c.sig]) /\ Blk V5 wr.heap.size 84 #[.int .i64 x.status, .int .i64 x.why, .slice p1 x.path.length q1, .slice e1 x.lst.length r1]) := ⟨⟨G4.out.1.1.trans (hb.mono G4.out.1.1.size), G4.out.1.2.below hb G4.out.1.2.lt⟩, G4.out.2.below hb G4.out.2.lt⟩
     clear hb E3 G4
     have d50 : V5.cell? ⟨wr.heap.size, 0, none⟩ = some (.int .i64 x.status) := G5.out.2.cell 0
     have d51 : V5.cell? ⟨wr.heap.size, 1, none⟩ = some (.int .i64 x.why) := G5.out.2.cell 1
     have d52 : V5.cell? ⟨wr.heap.size, 2, none⟩ = some (.slice p1 x.path.length q1) := G5.out.2.cell 2
     have d53 : V5.cell? ⟨wr.heap.size, 3, none⟩ = some (.slice e1 x.lst.length r1) := G5.out.2.cell 3
     cases B3 with
     | false =>
      have HF : Hid (replyOk c = false) := by rw [HC0.out, awAll_no hkl (by rw [HX.out.1, HX.out.2]; simp)]; rfl
      go_wp2_with fail
      go_ret
      exact ⟨by rw [HF.out]; rfl, G5.out.1.1⟩
     | true =>
      go_wp2_with fail
      refine (E4.out V5 G5.out.1.1).mono ?_
      rintro e V6 ⟨rfl, hb⟩
      have G6 : Hid ((Below w.heap.size w V6 /\ Blk V6 w.heap.size 44 #[.string c.hash, .int .i64 c.nonce, .int .i64 c.time, .int .i64 c.next, .int .i64 c.plan, .int .i64 c.err, .slice (some ⟨b, off, none⟩) n pc, .string c.sig]) /\ Blk V6 wr.heap.size 84 #[.int .i64 x.status, .int .i64 x.why, .slice p1 x.path.length q1, .slice e1 x.lst.length r1]) := ⟨⟨G5.out.1.1.trans (hb.mono G5.out.1.1.size), G5.out.1.2.below hb G5.out.1.2.lt⟩, G5.out.2.below hb G5.out.2.lt⟩
      clear hb E4 G5
      have d60 : V6.cell? ⟨wr.heap.size, 0, none⟩ = some (.int .i64 x.status) := G6.out.2.cell 0
      have d61 : V6.cell? ⟨wr.heap.size, 1, none⟩ = some (.int .i64 x.why) := G6.out.2.cell 1
      have d62 : V6.cell? ⟨wr.heap.size, 2, none⟩ = some (.slice p1 x.path.length q1) := G6.out.2.cell 2
      have d63 : V6.cell? ⟨wr.heap.size, 3, none⟩ = some (.slice e1 x.lst.length r1) := G6.out.2.cell 3
      cases B4 with
      | false =>
       have HF : Hid (replyOk c = false) := by rw [HC0.out, awAll_no hkl (by rw [HX.out.1, HX.out.2]; simp)]; rfl
       go_wp2_with fail
       go_ret
       exact ⟨by rw [HF.out]; rfl, G6.out.1.1⟩
      | true =>
       have HN : Hid (∀ j (hj : j < c.ans.length), j < k + 1 -> awOk c.ans[j] = true) := fun j hj h => by
        rcases Nat.lt_or_ge j k with h | h
        ·exact HL.out j hj h
        ·have : j = k := by omega
         subst this
         rw [HX.out.1, HX.out.2]; rfl
       have GN : Hid (Below w.heap.size w V6 /\ Blk V6 w.heap.size 44 #[.string c.hash, .int .i64 c.nonce, .int .i64 c.time, .int .i64 c.next, .int .i64 c.plan, .int .i64 c.err, .slice (some ⟨b, off, none⟩) n pc, .string c.sig]) := G6.out.1
       clear HL G6 HX
       go_wp2_with fail
       go_roundw
       case rel => exact ⟨k + 1, by omega, by go_num, HN, GN⟩
       case measure => simp [intOf]; omega
  ·have hkl : n = k := by omega
   subst hkl
   have HC1 : Hid (replyOk c = (decide (c.hash.size = 32) && (C1 && (C2 && (C3 && (C4 && (C5 && (decide (c.ans.length <= 3) && decide (c.sig.size = 15))))))))) := by rw [HC0.out, awAll_yes (fun j hj => HL.out j hj (by rw [<- HT.out.2]; exact hj))]; rfl
   clear HC0 HL
   have d10 : wr.cell? ⟨w.heap.size, 0, none⟩ = some (.string c.hash) := G1.out.2.cell 0
   have d11 : wr.cell? ⟨w.heap.size, 1, none⟩ = some (.int .i64 c.nonce) := G1.out.2.cell 1
   have d12 : wr.cell? ⟨w.heap.size, 2, none⟩ = some (.int .i64 c.time) := G1.out.2.cell 2
   have d13 : wr.cell? ⟨w.heap.size, 3, none⟩ = some (.int .i64 c.next) := G1.out.2.cell 3
   have d14 : wr.cell? ⟨w.heap.size, 4, none⟩ = some (.int .i64 c.plan) := G1.out.2.cell 4
   have d15 : wr.cell? ⟨w.heap.size, 5, none⟩ = some (.int .i64 c.err) := G1.out.2.cell 5
   have d17 : wr.cell? ⟨w.heap.size, 7, none⟩ = some (.string c.sig) := G1.out.2.cell 7
   by_cases h32 : c.hash.size = 32
   rotate_left
   ·have h32i : ¬ (c.hash.size : Int) = 32 := by omega
    go_wp2_with fail
    go_ret
    exact ⟨by rw [HC1.out]; simp [h32], G1.out.1⟩
   have h32i : (c.hash.size : Int) = 32 := by omega
   have HC : Hid (replyOk c = (C1 && (C2 && (C3 && (C4 && (C5 && (decide (c.ans.length <= 3) && decide (c.sig.size = 15)))))))) := by show replyOk c = _; rw [HC1.out]; simp [h32]
   clear HC1
   go_wp2_with fail
   refine (F1.out wr G1.out.1).mono ?_
   rintro e V2 ⟨rfl, hb⟩
   have G2 : Hid (Below w.heap.size w V2 /\ Blk V2 w.heap.size 44 #[.string c.hash, .int .i64 c.nonce, .int .i64 c.time, .int .i64 c.next, .int .i64 c.plan, .int .i64 c.err, .slice pa n pc, .string c.sig]) := ⟨G1.out.1.trans (hb.mono G1.out.1.size), G1.out.2.below hb G1.out.2.lt⟩
   clear hb F1 G1
   have d20 : V2.cell? ⟨w.heap.size, 0, none⟩ = some (.string c.hash) := G2.out.2.cell 0
   have d21 : V2.cell? ⟨w.heap.size, 1, none⟩ = some (.int .i64 c.nonce) := G2.out.2.cell 1
   have d22 : V2.cell? ⟨w.heap.size, 2, none⟩ = some (.int .i64 c.time) := G2.out.2.cell 2
   have d23 : V2.cell? ⟨w.heap.size, 3, none⟩ = some (.int .i64 c.next) := G2.out.2.cell 3
   have d24 : V2.cell? ⟨w.heap.size, 4, none⟩ = some (.int .i64 c.plan) := G2.out.2.cell 4
   have d25 : V2.cell? ⟨w.heap.size, 5, none⟩ = some (.int .i64 c.err) := G2.out.2.cell 5
   have d26 : V2.cell? ⟨w.heap.size, 6, none⟩ = some (.slice pa n pc) := G2.out.2.cell 6
   have d27 : V2.cell? ⟨w.heap.size, 7, none⟩ = some (.string c.sig) := G2.out.2.cell 7
   cases C1 with
   | false =>
    go_wp2_with fail
    go_ret
    exact ⟨by rw [HC.out]; simp, G2.out.1⟩
   | true =>
    go_wp2_with fail
    refine (F2.out V2 G2.out.1).mono ?_
    rintro e V3 ⟨rfl, hb⟩
    have G3 : Hid (Below w.heap.size w V3 /\ Blk V3 w.heap.size 44 #[.string c.hash, .int .i64 c.nonce, .int .i64 c.time, .int .i64 c.next, .int .i64 c.plan, .int .i64 c.err, .slice pa n pc, .string c.sig]) := ⟨G2.out.1.trans (hb.mono G2.out.1.size), G2.out.2.below hb G2.out.2.lt⟩
    clear hb F2 G2
    have d30 : V3.cell? ⟨w.heap.size, 0, none⟩ = some (.string c.hash) := G3.out.2.cell 0
    have d31 : V3.cell? ⟨w.heap.size, 1, none⟩ = some (.int .i64 c.nonce) := G3.out.2.cell 1
    have d32 : V3.cell? ⟨w.heap.size, 2, none⟩ = some (.int .i64 c.time) := G3.out.2.cell 2
    have d33 : V3.cell? ⟨w.heap.size, 3, none⟩ = some (.int .i64 c.next) := G3.out.2.cell 3
    have d34 : V3.cell? ⟨w.heap.size, 4, none⟩ = some (.int .i64 c.plan) := G3.out.2.cell 4
    have d35 : V3.cell? ⟨w.heap.size, 5, none⟩ = some (.int .i64 c.err) := G3.out.2.cell 5
    have d36 : V3.cell? ⟨w.heap.size, 6, none⟩ = some (.slice pa n pc) := G3.out.2.cell 6
    have d37 : V3.cell? ⟨w.heap.size, 7, none⟩ = some (.string c.sig) := G3.out.2.cell 7
    cases C2 with
    | false =>
     go_wp2_with fail
     go_ret
     exact ⟨by rw [HC.out]; simp, G3.out.1⟩
    | true =>
     go_wp2_with fail
     refine (F3.out V3 G3.out.1).mono ?_
     rintro e V4 ⟨rfl, hb⟩
     have G4 : Hid (Below w.heap.size w V4 /\ Blk V4 w.heap.size 44 #[.string c.hash, .int .i64 c.nonce, .int .i64 c.time, .int .i64 c.next, .int .i64 c.plan, .int .i64 c.err, .slice pa n pc, .string c.sig]) := ⟨G3.out.1.trans (hb.mono G3.out.1.size), G3.out.2.below hb G3.out.2.lt⟩
     clear hb F3 G3
     have d40 : V4.cell? ⟨w.heap.size, 0, none⟩ = some (.string c.hash) := G4.out.2.cell 0
     have d41 : V4.cell? ⟨w.heap.size, 1, none⟩ = some (.int .i64 c.nonce) := G4.out.2.cell 1
     have d42 : V4.cell? ⟨w.heap.size, 2, none⟩ = some (.int .i64 c.time) := G4.out.2.cell 2
     have d43 : V4.cell? ⟨w.heap.size, 3, none⟩ = some (.int .i64 c.next) := G4.out.2.cell 3
     have d44 : V4.cell? ⟨w.heap.size, 4, none⟩ = some (.int .i64 c.plan) := G4.out.2.cell 4
     have d45 : V4.cell? ⟨w.heap.size, 5, none⟩ = some (.int .i64 c.err) := G4.out.2.cell 5
     have d46 : V4.cell? ⟨w.heap.size, 6, none⟩ = some (.slice pa n pc) := G4.out.2.cell 6
     have d47 : V4.cell? ⟨w.heap.size, 7, none⟩ = some (.string c.sig) := G4.out.2.cell 7
     cases C3 with
     | false =>
      go_wp2_with fail
      go_ret
      exact ⟨by rw [HC.out]; simp, G4.out.1⟩
     | true =>
      go_wp2_with fail
      refine (F4.out V4 G4.out.1).mono ?_
      rintro e V5 ⟨rfl, hb⟩
      have G5 : Hid (Below w.heap.size w V5 /\ Blk V5 w.heap.size 44 #[.string c.hash, .int .i64 c.nonce, .int .i64 c.time, .int .i64 c.next, .int .i64 c.plan, .int .i64 c.err, .slice pa n pc, .string c.sig]) := ⟨G4.out.1.trans (hb.mono G4.out.1.size), G4.out.2.below hb G4.out.2.lt⟩
      clear hb F4 G4
      have d50 : V5.cell? ⟨w.heap.size, 0, none⟩ = some (.string c.hash) := G5.out.2.cell 0
      have d51 : V5.cell? ⟨w.heap.size, 1, none⟩ = some (.int .i64 c.nonce) := G5.out.2.cell 1
      have d52 : V5.cell? ⟨w.heap.size, 2, none⟩ = some (.int .i64 c.time) := G5.out.2.cell 2
      have d53 : V5.cell? ⟨w.heap.size, 3, none⟩ = some (.int .i64 c.next) := G5.out.2.cell 3
      have d54 : V5.cell? ⟨w.heap.size, 4, none⟩ = some (.int .i64 c.plan) := G5.out.2.cell 4
      have d55 : V5.cell? ⟨w.heap.size, 5, none⟩ = some (.int .i64 c.err) := G5.out.2.cell 5
      have d56 : V5.cell? ⟨w.heap.size, 6, none⟩ = some (.slice pa n pc) := G5.out.2.cell 6
      have d57 : V5.cell? ⟨w.heap.size, 7, none⟩ = some (.string c.sig) := G5.out.2.cell 7
      cases C4 with
      | false =>
       go_wp2_with fail
       go_ret
       exact ⟨by rw [HC.out]; simp, G5.out.1⟩
      | true =>
       go_wp2_with fail
       refine (F5.out V5 G5.out.1).mono ?_
       rintro e V6 ⟨rfl, hb⟩
       have G6 : Hid (Below w.heap.size w V6 /\ Blk V6 w.heap.size 44 #[.string c.hash, .int .i64 c.nonce, .int .i64 c.time, .int .i64 c.next, .int .i64 c.plan, .int .i64 c.err, .slice pa n pc, .string c.sig]) := ⟨G5.out.1.trans (hb.mono G5.out.1.size), G5.out.2.below hb G5.out.2.lt⟩
       clear hb F5 G5
       have d60 : V6.cell? ⟨w.heap.size, 0, none⟩ = some (.string c.hash) := G6.out.2.cell 0
       have d61 : V6.cell? ⟨w.heap.size, 1, none⟩ = some (.int .i64 c.nonce) := G6.out.2.cell 1
       have d62 : V6.cell? ⟨w.heap.size, 2, none⟩ = some (.int .i64 c.time) := G6.out.2.cell 2
       have d63 : V6.cell? ⟨w.heap.size, 3, none⟩ = some (.int .i64 c.next) := G6.out.2.cell 3
       have d64 : V6.cell? ⟨w.heap.size, 4, none⟩ = some (.int .i64 c.plan) := G6.out.2.cell 4
       have d65 : V6.cell? ⟨w.heap.size, 5, none⟩ = some (.int .i64 c.err) := G6.out.2.cell 5
       have d66 : V6.cell? ⟨w.heap.size, 6, none⟩ = some (.slice pa n pc) := G6.out.2.cell 6
       have d67 : V6.cell? ⟨w.heap.size, 7, none⟩ = some (.string c.sig) := G6.out.2.cell 7
       cases C5 with
       | false =>
        go_wp2_with fail
        go_ret
        exact ⟨by rw [HC.out]; simp, G6.out.1⟩
       | true =>
        by_cases h3 : c.ans.length <= 3
        ·have h3i : (n : Int) <= 3 := by have := HT.out.2; omega
         by_cases h15 : c.sig.size = 15
         ·have h15i : (c.sig.size : Int) = 15 := by omega
          go_wp2_with fail
          go_ret
          exact ⟨by rw [HC.out]; simp [h3, h15]; try omega, G6.out.1⟩
         ·have h15i : ¬ (c.sig.size : Int) = 15 := by omega
          go_wp2_with fail
          go_ret
          exact ⟨by rw [HC.out]; simp [h3, h15]; try omega, G6.out.1⟩
        ·have h3i : ¬ (n : Int) <= 3 := by have := HT.out.2; omega
         go_wp2_with fail
         go_ret
         exact ⟨by rw [HC.out]; simp [h3]; try omega, G6.out.1⟩
end Go.Proofs.Ytbiiihjohbnodaa
namespace Go.Proofs.Ytbiiihjohbnodaa
open Go.RowKit Der
set_option linter.unusedVariables false
def ansI (x : Aw) : It 3 := lstJ [intI x.status, intI x.why, lstJ (x.path.map bytJ), lstJ (x.lst.map bytJ)]
def bodyR (c : Rp) : It 5 := lstJ [bytJ c.hash, intI c.nonce, intI c.time, intI c.next, intI c.plan, intI c.err, lstJ (c.ans.map ansI)]
def replyI (c : Rp) : It 6 := lstJ [bodyR c, bytJ c.sig]
theorem sz_ans (x : Aw) : szI 3 (ansI x) <= 14 + wtAw x := by
 have a1 : szI 2 (intI x.status) <= 5 := sz_int x.status
 have a2 : szI 2 (intI x.why) <= 5 := sz_int x.why
 have e1 : x.path.length + ((x.path.map bytJ).map (szI 1)).sum = totT x.path := sz_byts (n := 0) x.path
 have e2 : x.lst.length + ((x.lst.map bytJ).map (szI 1)).sum = totT x.lst := sz_byts (n := 0) x.lst
 unfold ansI wtAw
 rw [sz_lst]
 simp only [List.map_cons, List.map_nil, List.sum_cons, List.sum_nil, List.length_cons, List.length_nil]
 rw [sz_lst, sz_lst]
 simp only [List.length_map]
 omega
theorem sz_anss : ∀ l : List Aw, l.length + ((l.map ansI).map (szI 3)).sum <= 15 * wtAS l
 | [] => by simp
 | x :: l => by
  have h1 := sz_anss l
  have h2 := sz_ans x
  unfold wtAS at h1 |-
  simp only [List.map_cons, List.sum_cons, List.length_cons]
  omega
theorem sz_bodyR {c : Rp} (h : wtR c <= 1048576) : szI 5 (bodyR c) <= 16000000 := by
 unfold wtR at h
 have a1 : szI 4 (intI c.nonce) <= 5 := sz_int c.nonce
 have a2 : szI 4 (intI c.time) <= 5 := sz_int c.time
 have a3 : szI 4 (intI c.next) <= 5 := sz_int c.next
 have a4 : szI 4 (intI c.plan) <= 5 := sz_int c.plan
 have a5 : szI 4 (intI c.err) <= 5 := sz_int c.err
 have a6 : szI 4 (bytJ c.hash) = c.hash.size := sz_byt c.hash
 have e := sz_anss c.ans
 unfold bodyR
 rw [sz_lst]
 simp only [List.map_cons, List.map_nil, List.sum_cons, List.sum_nil, List.length_cons, List.length_nil]
 rw [sz_lst]
 simp only [List.length_map]
 omega
theorem sz_replyI {c : Rp} (h : wtR c <= 1048576) : szI 6 (replyI c) <= 20000000 := by
 have h1 := sz_bodyR h
 have a6 : szI 5 (bytJ c.sig) = c.sig.size := sz_byt c.sig
 unfold wtR at h
 unfold replyI
 rw [sz_lst]
 simp only [List.map_cons, List.map_nil, List.sum_cons, List.sum_nil, List.length_cons, List.length_nil]
 omega
theorem ans_row {W W' : World} {b : Nat} {x : Aw} {kP kE : Value} {fP fE : List Nat} (hP : OwnK W b 1 kP (It.kids (n := 1) (lstJ (x.path.map bytJ))) fP) (hE : OwnK W b 1 kE (It.kids (n := 1) (lstJ (x.lst.map bytJ))) fE) (hd : ∀ g ∈ fP, g ∉ fE) (hb : b <= W.heap.size)
  (hW : W' = W.alloc (.cells #[.int .i64 2, .string ⟨(intT (numN x.status)).toArray⟩, .slice none 0 0, .int .i64 2, .string ⟨(intT (numN x.why)).toArray⟩, .slice none 0 0, .int .i64 48, .string ⟨#[]⟩, kP, .int .i64 48, .string ⟨#[]⟩, kE] 67)) :
  ∃ fp, OwnK W' b 2 (.slice (some ⟨W.heap.size, 0, none⟩) 4 4) (It.kids (ansI x)) fp := by
 have nn := own_none W b 1
 have R : RowsK W b 1 (It.kids (ansI x)) [.slice none 0 0, .slice none 0 0, kP, kE] [[], [], fP, fE] := ⟨nn, nn, hP, hE, trivial⟩
 refine (R.grow (cap := 4) hb ?_ (by show 4 <= 1000; decide) rfl ?_).own
 ·have h1 := hP.nodup
  have h2 := hE.nodup
  have h3 : (fP ++ fE).Nodup := nodup_app h1 h2 fun y q1 q2 => hd y q1 q2
  simpa using h3
 ·rw [hW]
  rfl
theorem bodyR_row {W W' : World} {b : Nat} {c : Rp} {kv : Value} {fp : List Nat} (h : OwnK W b 3 kv (c.ans.map ansI) fp) (hb : b <= W.heap.size)
  (hW : W' = W.alloc (.cells #[.int .i64 4, .string c.hash, .slice none 0 0, .int .i64 2, .string ⟨(intT (numN c.nonce)).toArray⟩, .slice none 0 0, .int .i64 2, .string ⟨(intT (numN c.time)).toArray⟩, .slice none 0 0, .int .i64 2, .string ⟨(intT (numN c.next)).toArray⟩, .slice none 0 0, .int .i64 2, .string ⟨(intT (numN c.plan)).toArray⟩, .slice none 0 0, .int .i64 2, .string ⟨(intT (numN c.err)).toArray⟩, .slice none 0 0, .int .i64 48, .string ⟨#[]⟩, kv] 67)) :
  ∃ fq, OwnK W' b 4 (.slice (some ⟨W.heap.size, 0, none⟩) 7 7) (It.kids (bodyR c)) fq := by
 have nn := own_none W b 3
 have R : RowsK W b 3 (It.kids (bodyR c)) [.slice none 0 0, .slice none 0 0, .slice none 0 0, .slice none 0 0, .slice none 0 0, .slice none 0 0, kv] [[], [], [], [], [], [], fp] := ⟨nn, nn, nn, nn, nn, nn, h, trivial⟩
 refine (R.grow (cap := 7) hb (by have := h.nodup; simpa using this) (by show 7 <= 1000; decide) rfl ?_).own
 rw [hW]
 rfl
theorem reply_row {W W' : World} {b : Nat} {c : Rp} {k : Value} {fp : List Nat} (h : OwnK W b 4 k (It.kids (bodyR c)) fp) (hb : b <= W.heap.size)
  (hW : W' = W.alloc (.cells #[.int .i64 48, .string ⟨#[]⟩, k, .int .i64 4, .string c.sig, .slice none 0 0] 67)) :
  ∃ fq, OwnK W' b 5 (.slice (some ⟨W.heap.size, 0, none⟩) 2 2) (It.kids (replyI c)) fq := by
 have nn := own_none W b 4
 have R : RowsK W b 4 (It.kids (replyI c)) [k, .slice none 0 0] [fp, []] := ⟨h, nn, trivial⟩
 refine (R.grow (cap := 2) hb (by have := h.nodup; simpa using this) (by show 2 <= 1000; decide) rfl ?_).own
 rw [hW]
 rfl
end Go.Proofs.Ytbiiihjohbnodaa
namespace Go.Proofs.Ytbiiihjohbnodaa
open Go.RowKit Der
set_option linter.unusedVariables false
set_option linter.unusedSimpArgs false
def ansB {k : Nat} (ks : List (It (k + 2))) : Option Aw := (numP ks).bind fun a0 => (numP a0.2).bind fun a1 => (bytsL a1.2).bind fun a2 => (bytsL a2.2).bind fun a3 => (endP a3.2).bind fun _ => some ⟨a0.1, a1.1, a2.1, a3.1⟩
def ansP {k : Nat} (ks : List (It (k + 3))) : Option (Aw × List (It (k + 3))) := (lstP ks).bind fun i => (ansB i.1).bind fun x => some (x, i.2)
def anssP {k : Nat} : List (It (k + 3)) -> Option (List Aw)
 | [] => some []
 | y :: r => match ansP (y :: r) with
  | none => none
  | some (v, _) => match anssP r with
   | none => none
   | some l => some (v :: l)
def anssL {k : Nat} (ks : List (It (k + 4))) : Option (List Aw × List (It (k + 4))) :=
 match lstP ks with
 | none => none
 | some (i, r) => match anssP i with
  | none => none
  | some l => some (l, r)
def rbodyP {k : Nat} (ks : List (It (k + 4))) : Option Rp :=
 (txtP 4 ks).bind fun a0 => (numP a0.2).bind fun a1 => (numP a1.2).bind fun a2 => (numP a2.2).bind fun a3 => (numP a3.2).bind fun a4 => (numP a4.2).bind fun a5 => (anssL a5.2).bind fun a6 => (endP a6.2).bind fun _ => some ⟨a0.1, a1.1, a2.1, a3.1, a4.1, a5.1, a6.1, ⟨#[]⟩⟩
def repK {k : Nat} (ks : List (It (k + 5))) : Option Rp := (lstP ks).bind fun b => (rbodyP b.1).bind fun c => (txtP 4 b.2).bind fun s => (endP s.2).bind fun _ => some { c with sig := s.1 }
def repP {m : Nat} (x : It (m + 6)) : Option Rp := if It.tag x = 48 then repK (It.kids x) else none
theorem repP_whole {m : Nat} (x : It (m + 6)) : repP x = if It.tag x = 48 then repK (It.kids x) else none := rfl
def ansS {k : Nat} (y : It (k + 3)) : Option Aw :=
 match It.kids y with
 | [f0, f1, f2, f3] => if It.tag y = 48 then some ⟨numI f0, numI f1, (It.kids f2).map fun z => baL (It.text z), (It.kids f3).map fun z => baL (It.text z)⟩ else none
 | _ => none
def anssS {k : Nat} : List (It (k + 3)) -> Option (List Aw)
 | [] => some []
 | y :: r => match ansS y with
  | none => none
  | some v => match anssS r with
   | none => none
   | some l => some (v :: l)
def repS {m : Nat} (x : It (m + 6)) : Option Rp :=
 match It.kids x with
 | [b, sg] => match It.kids b with
  | [k0, k1, k2, k3, k4, k5, k6] => if It.tag x = 48 /\ It.tag b = 48 then (anssS (It.kids k6)).map fun l => ⟨baL (It.text k0), numI k1, numI k2, numI k3, numI k4, numI k5, l, baL (It.text sg)⟩ else none
  | _ => none
 | _ => none
theorem ans_some {k : Nat} {ks : List (It (k + 3))} {p : Aw × List (It (k + 3))} (h : ansP ks = some p) : ∃ y, ks = y :: p.2 /\ It.tag y = 48 /\ ansB (It.kids y) = some p.1 := by
 unfold ansP at h
 obtain ⟨i, h1, h⟩ := Option.bind_eq_some_iff.1 h
 obtain ⟨x, h2, h⟩ := Option.bind_eq_some_iff.1 h
 simp only [Option.some.injEq] at h
 obtain ⟨y, e1, e2, e3⟩ := lst_some h1
 subst h
 exact ⟨y, e1, e2, by rw [<- e3]; exact h2⟩
theorem anss_some {k : Nat} : ∀ {ks : List (It (k + 3))} {l : List Aw}, anssP ks = some l -> l.length = ks.length /\ ∀ j (h1 : j < ks.length) (h2 : j < l.length), It.tag ks[j] = 48 /\ ansB (It.kids ks[j]) = some l[j]
 | [], l, h => by
  simp only [anssP, Option.some.injEq] at h
  subst h
  exact ⟨rfl, fun j h1 => absurd h1 (Nat.not_lt_zero _)⟩
 | y :: r, l, h => by
  unfold anssP at h
  split at h
  ·cases h
  ·next v q hn =>
   split at h
   ·cases h
   ·next l' hl =>
    simp only [Option.some.injEq] at h
    subst h
    obtain ⟨i1, i2⟩ := anss_some hl
    obtain ⟨y', e1, e2, e3⟩ := ans_some hn
    obtain ⟨rfl, -⟩ := List.cons.inj e1
    refine ⟨by simp [i1], fun j a b => ?_⟩
    cases j with
    | zero => exact ⟨e2, e3⟩
    | succ j => exact i2 j (by simpa using a) (by simpa using b)
theorem anssL_some {k : Nat} {ks : List (It (k + 4))} {p : List Aw × List (It (k + 4))} (h : anssL ks = some p) : ∃ y, ks = y :: p.2 /\ It.tag y = 48 /\ anssP (It.kids y) = some p.1 := by
 unfold anssL at h
 split at h
 ·cases h
 ·next i r hn =>
  obtain ⟨y, h1, h2, h3⟩ := lst_some hn
  split at h
  ·cases h
  ·next l hl =>
   simp only [Option.some.injEq] at h
   subst h
   change i = It.kids y at h3
   subst h3
   exact ⟨y, h1, h2, hl⟩
theorem anssS_none {k : Nat} : ∀ {ks : List (It (k + 3))} {j : Nat} (hj : j < ks.length), ansS ks[j] = none -> anssS ks = none
 | y :: r, 0, _, h => by
  change ansS y = none at h
  unfold anssS
  rw [h]
 | y :: r, j + 1, hj, h => by
  have ih := anssS_none (ks := r) (j := j) (by simpa using hj) (by simpa using h)
  unfold anssS
  rw [ih]
  cases ansS y <;> rfl
theorem anssS_all {k : Nat} : ∀ {ks : List (It (k + 3))} {l : List Aw}, l.length = ks.length -> (∀ j (h1 : j < ks.length) (h2 : j < l.length), ansS ks[j] = some l[j]) -> anssS ks = some l
 | [], [], _, _ => rfl
 | [], _ :: _, h, _ => by simp at h
 | _ :: _, [], h, _ => by simp at h
 | y :: r, v :: l, h, hp => by
  have ih := anssS_all (ks := r) (l := l) (by simpa using h) (fun j a b => by have := hp (j + 1) (by simpa using a) (by simpa using b); simpa using this)
  have h0 := hp 0 (by simp) (by simp)
  change ansS y = some v at h0
  unfold anssS
  rw [h0, ih]
theorem listR_four {α : Type} {l : List α} (h : l.length = 4) : ∃ a b c d, l = [a, b, c, d] := by
 match l, h with
 | [a, b, c, d], _ => exact ⟨a, b, c, d, rfl⟩
theorem listR_seven {α : Type} {l : List α} (h : l.length = 7) : ∃ a b c d e f g, l = [a, b, c, d, e, f, g] := by
 match l, h with
 | [a, b, c, d, e, f, g], _ => exact ⟨a, b, c, d, e, f, g, rfl⟩
theorem ansB_same {m d : Nat} {y : It (m + 3)} {x : Aw} (ht : It.tag y = 48) (h : ansB (It.kids y) = some x) (hr : rightI (m + 3) y d = true) : sameI (m + 3) 3 y (ansI x) = true := by
 obtain ⟨t1, t2⟩ := right_list hr ht
 unfold ansB at h
 obtain ⟨a0, h0, h⟩ := Option.bind_eq_some_iff.1 h
 obtain ⟨a1, h1, h⟩ := Option.bind_eq_some_iff.1 h
 obtain ⟨a2, h2, h⟩ := Option.bind_eq_some_iff.1 h
 obtain ⟨a3, h3, h⟩ := Option.bind_eq_some_iff.1 h
 obtain ⟨_, he, h⟩ := Option.bind_eq_some_iff.1 h
 simp only [Option.some.injEq] at h
 obtain ⟨y0, n0, p0, q0, i0, v0⟩ := num_some h0
 obtain ⟨y1, n1, p1, q1, i1, v1⟩ := num_some h1
 obtain ⟨y2, p2, q2, v2⟩ := bytsL_some h2
 obtain ⟨y3, p3, q3, v3⟩ := bytsL_some h3
 have ze := end_some he
 rw [ze] at p3
 rw [p3] at p2
 rw [p2] at p1
 rw [p1] at p0
 have rk : ∀ z ∈ [y0, y1, y2, y3], rightI (m + 2) z (d + 1) = true := fun z hz => t2 z (by rw [p0]; exact hz)
 subst h
 refine same_lst ht t1 p0 ⟨rfl, ?_⟩
 simp only [List.zip_cons_cons, List.zip_nil_right, List.all_cons, List.all_nil, Bool.and_true, Bool.and_eq_true]
 exact ⟨by rw [v0]; exact leaf_int i0, by rw [v1]; exact leaf_int i1, list_byt (rk y2 (by simp)) q2 v2, list_byt (rk y3 (by simp)) q3 v3⟩
theorem list_ans {m d : Nat} {y : It (m + 4)} {l : List Aw} (h : rightI (m + 4) y d = true) (ht : It.tag y = 48) (hl : anssP (It.kids y) = some l) : sameI (m + 4) 4 y (lstJ (l.map ansI)) = true := by
 obtain ⟨h1, h2⟩ := right_list h ht
 obtain ⟨g1, g2⟩ := anss_some hl
 refine same_of ht h1 (by rw [<- g1]; show _ = (l.map ansI).length; rw [List.length_map]) fun j a b => ?_
 have hj : j < l.length := by omega
 obtain ⟨e1, e3⟩ := g2 j a hj
 have e : (It.kids (lstJ (l.map ansI)))[j]'b = ansI l[j] := by
  show (l.map ansI)[j]'(by rw [List.length_map]; exact hj) = _
  rw [List.getElem_map]
 rw [e]
 exact ansB_same e1 e3 (h2 _ (List.getElem_mem _))
theorem rep_same {m : Nat} {x : It (m + 6)} {c : Rp} (h : repP x = some c) (hr : rightI (m + 6) x 0 = true) : sameI (m + 6) 6 x (replyI c) = true := by
 unfold repP at h
 split at h
 rotate_left
 ·cases h
 next ht =>
 obtain ⟨t1, t2⟩ := right_list hr ht
 unfold repK at h
 obtain ⟨b, hb, h⟩ := Option.bind_eq_some_iff.1 h
 obtain ⟨cb, hcb, h⟩ := Option.bind_eq_some_iff.1 h
 obtain ⟨s, hs, h⟩ := Option.bind_eq_some_iff.1 h
 obtain ⟨_, he, h⟩ := Option.bind_eq_some_iff.1 h
 simp only [Option.some.injEq] at h
 obtain ⟨yb, pb, qb, vb⟩ := lst_some hb
 obtain ⟨ys, ps, qs, vs⟩ := txt_some hs
 have zs := end_some he
 rw [zs] at ps
 rw [ps] at pb
 have rk : ∀ z ∈ [yb, ys], rightI (m + 5) z 1 = true := fun z hz => t2 z (by rw [pb]; exact hz)
 obtain ⟨u1, u2⟩ := right_list (rk yb (by simp)) qb
 rw [vb] at hcb
 unfold rbodyP at hcb
 obtain ⟨a0, h0, hcb⟩ := Option.bind_eq_some_iff.1 hcb
 obtain ⟨a1, h1, hcb⟩ := Option.bind_eq_some_iff.1 hcb
 obtain ⟨a2, h2, hcb⟩ := Option.bind_eq_some_iff.1 hcb
 obtain ⟨a3, h3, hcb⟩ := Option.bind_eq_some_iff.1 hcb
 obtain ⟨a4, h4, hcb⟩ := Option.bind_eq_some_iff.1 hcb
 obtain ⟨a5, h5, hcb⟩ := Option.bind_eq_some_iff.1 hcb
 obtain ⟨a6, h6, hcb⟩ := Option.bind_eq_some_iff.1 hcb
 obtain ⟨_, hee, hcb⟩ := Option.bind_eq_some_iff.1 hcb
 simp only [Option.some.injEq] at hcb
 obtain ⟨y0, p0, q0, v0⟩ := txt_some h0
 obtain ⟨y1, n1, p1, q1, i1, v1⟩ := num_some h1
 obtain ⟨y2, n2, p2, q2, i2, v2⟩ := num_some h2
 obtain ⟨y3, n3, p3, q3, i3, v3⟩ := num_some h3
 obtain ⟨y4, n4, p4, q4, i4, v4⟩ := num_some h4
 obtain ⟨y5, n5, p5, q5, i5, v5⟩ := num_some h5
 obtain ⟨y6, p6, q6, v6⟩ := anssL_some h6
 have ze := end_some hee
 rw [ze] at p6
 rw [p6] at p5
 rw [p5] at p4
 rw [p4] at p3
 rw [p3] at p2
 rw [p2] at p1
 rw [p1] at p0
 have rj : ∀ z ∈ [y0, y1, y2, y3, y4, y5, y6], rightI (m + 4) z 2 = true := fun z hz => u2 z (by rw [p0]; exact hz)
 have hbody : sameI (m + 5) 5 yb (bodyR cb) = true := by
  subst hcb
  refine same_lst qb u1 p0 ⟨rfl, ?_⟩
  simp only [List.zip_cons_cons, List.zip_nil_right, List.all_cons, List.all_nil, Bool.and_true, Bool.and_eq_true]
  exact ⟨by rw [v0]; exact leaf_byt (rj y0 (by simp)) q0, by rw [v1]; exact leaf_int i1, by rw [v2]; exact leaf_int i2, by rw [v3]; exact leaf_int i3, by rw [v4]; exact leaf_int i4, by rw [v5]; exact leaf_int i5, list_ans (rj y6 (by simp)) q6 v6⟩
 have hbody2 : sameI (m + 5) 5 yb (bodyR c) = true := by subst h; exact hbody
 refine same_lst ht t1 pb ⟨rfl, ?_⟩
 simp only [List.zip_cons_cons, List.zip_nil_right, List.all_cons, List.all_nil, Bool.and_true, Bool.and_eq_true]
 exact ⟨hbody2, by subst h; show sameI (m + 5) 5 ys (bytJ s.1) = true; rw [vs]; exact leaf_byt (rk ys (by simp)) qs⟩
theorem ansI_same {m : Nat} {y : It (m + 3)} {x : Aw} (h : sameI (m + 3) 3 y (ansI x) = true) (hx : awOk x = true) : It.tag y = 48 /\ ansB (It.kids y) = some x /\ ansS y = some x := by
 unfold awOk at hx
 simp only [Bool.and_eq_true] at hx
 obtain ⟨c1, c2, -⟩ := hx
 have d1 := inB_of c1
 have d2 := inB_of c2
 obtain ⟨t1, t2, t3, t4⟩ := same_parts h
 obtain ⟨k0, k1, k2, k3, hk⟩ := listR_four (show (It.kids y).length = 4 from t3)
 rw [hk] at t4
 have each : ∀ p ∈ List.zip [k0, k1, k2, k3] [intI x.status, intI x.why, lstJ (x.path.map bytJ), lstJ (x.lst.map bytJ)], sameI (m + 2) 2 p.1 p.2 = true := t4
 simp only [List.zip_cons_cons, List.zip_nil_right, List.forall_mem_cons] at each
 obtain ⟨e0, e1, e2, e3, -⟩ := each
 obtain ⟨a0, b0, n0⟩ := in_same e0 d1.1 (by omega)
 obtain ⟨a1, b1, n1⟩ := in_same e1 d2.1 (by omega)
 obtain ⟨a2, _, l2, q2⟩ := same_parts e2
 obtain ⟨g2, n2⟩ := byts_same (m := 0) (ks := It.kids k2) (l := x.path) (by rw [l2]; show (x.path.map bytJ).length = _; rw [List.length_map]) q2
 obtain ⟨a3, _, l3, q3⟩ := same_parts e3
 obtain ⟨g3, n3⟩ := byts_same (m := 0) (ks := It.kids k3) (l := x.lst) (by rw [l3]; show (x.lst.map bytJ).length = _; rw [List.length_map]) q3
 have ht : It.tag y = 48 := t1
 have h2t : It.tag k2 = 48 := a2
 have h3t : It.tag k3 = 48 := a3
 have z1 : ((x.status.toNat : Nat) : Int) = x.status := by omega
 have z2 : ((x.why.toNat : Nat) : Int) = x.why := by omega
 refine ⟨ht, ?_, ?_⟩
 ·rw [hk]
  simp [ansB, numP, lstP, nextP, bytsL, endP, h2t, h3t, a0, a1, b0, b1, g2, g3, z1, z2]
 ·unfold ansS
  rw [hk]
  dsimp only
  rw [if_pos ht, n0, n1, n2, n3]
theorem anss_same {m : Nat} : ∀ {ks : List (It (m + 3))} {l : List Aw}, ks.length = l.length -> (∀ p ∈ ks.zip (l.map ansI), sameI (m + 3) 3 p.1 p.2 = true) -> (∀ x ∈ l, awOk x = true) -> anssP ks = some l /\ anssS ks = some l
 | [], [], _, _, _ => ⟨rfl, rfl⟩
 | [], _ :: _, h, _, _ => by simp at h
 | _ :: _, [], h, _, _ => by simp at h
 | y :: r, v :: l, h, hp, ho => by
  obtain ⟨i1, i2⟩ := anss_same (ks := r) (l := l) (by simpa using h) (fun p q => hp p (by simp [q])) (fun x q => ho x (by simp [q]))
  obtain ⟨e1, e2, e3⟩ := ansI_same (y := y) (x := v) (hp (y, ansI v) (by simp)) (ho v (by simp))
  refine ⟨?_, ?_⟩
  ·simp [anssP, ansP, lstP, nextP, e1, e2, i1]
  ·unfold anssS
   rw [e3, i2]
theorem reply_same {m : Nat} {x : It (m + 6)} {c : Rp} (h : sameI (m + 6) 6 x (replyI c) = true) (hc : replyOk c = true) : repP x = some c /\ repS x = some c := by
 unfold replyOk at hc
 simp only [Bool.and_eq_true, decide_eq_true_eq] at hc
 obtain ⟨c0, -, c1, c2, c3, c4, c5, -, -⟩ := hc
 rw [List.all_eq_true] at c0
 have d1 := inB_of c1
 have d2 := inB_of c2
 have d3 := inB_of c3
 have d4 := inB_of c4
 have d5 := inB_of c5
 obtain ⟨t1, t2, t3, t4⟩ := same_parts h
 obtain ⟨kb, sg, hk⟩ := list_two (show (It.kids x).length = 2 from t3)
 rw [hk] at t4
 have top : ∀ p ∈ List.zip [kb, sg] [bodyR c, bytJ c.sig], sameI (m + 5) 5 p.1 p.2 = true := t4
 simp only [List.zip_cons_cons, List.zip_nil_right, List.forall_mem_cons] at top
 obtain ⟨eb, es, -⟩ := top
 obtain ⟨u1, u2, u3, u4⟩ := same_parts eb
 obtain ⟨k0, k1, k2, k3, k4, k5, k6, hkb⟩ := listR_seven (show (It.kids kb).length = 7 from u3)
 rw [hkb] at u4
 have each : ∀ p ∈ List.zip [k0, k1, k2, k3, k4, k5, k6] [bytJ c.hash, intI c.nonce, intI c.time, intI c.next, intI c.plan, intI c.err, lstJ (c.ans.map ansI)], sameI (m + 4) 4 p.1 p.2 = true := u4
 simp only [List.zip_cons_cons, List.zip_nil_right, List.forall_mem_cons] at each
 obtain ⟨e0, e1, e2, e3, e4, e5, e6, -⟩ := each
 obtain ⟨a0, n0⟩ := byt_same e0
 obtain ⟨a1, b1, n1⟩ := in_same e1 d1.1 (by omega)
 obtain ⟨a2, b2, n2⟩ := in_same e2 d2.1 (by omega)
 obtain ⟨a3, b3, n3⟩ := in_same e3 d3.1 (by omega)
 obtain ⟨a4, b4, n4⟩ := in_same e4 d4.1 (by omega)
 obtain ⟨a5, b5, n5⟩ := in_same e5 d5.1 (by omega)
 obtain ⟨a6, _, l6, q6⟩ := same_parts e6
 obtain ⟨g6, n6⟩ := anss_same (ks := It.kids k6) (l := c.ans) (by rw [l6]; show (c.ans.map ansI).length = _; rw [List.length_map]) q6 c0
 obtain ⟨a7, n7⟩ := byt_same es
 have ht : It.tag x = 48 := t1
 have hbt : It.tag kb = 48 := u1
 have h6t : It.tag k6 = 48 := a6
 have z1 : ((c.nonce.toNat : Nat) : Int) = c.nonce := by omega
 have z2 : ((c.time.toNat : Nat) : Int) = c.time := by omega
 have z3 : ((c.next.toNat : Nat) : Int) = c.next := by omega
 have z4 : ((c.plan.toNat : Nat) : Int) = c.plan := by omega
 have z5 : ((c.err.toNat : Nat) : Int) = c.err := by omega
 refine ⟨?_, ?_⟩
 ·unfold repP
  rw [if_pos ht, hk]
  simp [repK, rbodyP, hkb, numP, txtP, lstP, nextP, anssL, endP, hbt, h6t, a0, a1, a2, a3, a4, a5, a7, b1, b2, b3, b4, b5, g6, n0, n7, z1, z2, z3, z4, z5]
 ·unfold repS
  rw [hk]
  dsimp only
  rw [hkb]
  dsimp only
  rw [if_pos ⟨ht, hbt⟩, n6, n0, n1, n2, n3, n4, n5, n7]
  rfl
def readV {m : Nat} (x : It (m + 6)) : Option Rp := (repP x).bind fun c => if replyOk c = true then some c else none
def readW {m : Nat} (t : List UInt8) (x : It (m + 6)) : Option Rp := (repS x).bind fun c => if replyOk c = true /\ writeI 6 (replyI c) = some t then some c else none
theorem readV_iff {m : Nat} {x : It (m + 6)} {t : List UInt8} (h : writeI (m + 6) x = some t) (c : Rp) : readV x = some c ↔ replyOk c = true /\ writeI 6 (replyI c) = some t := by
 unfold readV
 constructor
 ·intro q
  obtain ⟨c', h1, h2⟩ := Option.bind_eq_some_iff.1 q
  split at h2
  ·next hc =>
   simp only [Option.some.injEq] at h2
   subst h2
   exact ⟨hc, by rw [<- write_same (rep_same h1 (write_some h).1)]; exact h⟩
  ·cases h2
 ·rintro ⟨h1, h2⟩
  rw [(reply_same (same_written h h2) h1).1]
  simp [h1]
theorem readW_iff {m : Nat} {x : It (m + 6)} {t : List UInt8} (h : writeI (m + 6) x = some t) (c : Rp) : readW t x = some c ↔ replyOk c = true /\ writeI 6 (replyI c) = some t := by
 unfold readW
 constructor
 ·intro q
  obtain ⟨c', h1, h2⟩ := Option.bind_eq_some_iff.1 q
  split at h2
  ·next hc =>
   simp only [Option.some.injEq] at h2
   subst h2
   exact hc
  ·cases h2
 ·rintro ⟨h1, h2⟩
  rw [(reply_same (same_written h h2) h1).2]
  simp [h1, h2]
theorem readsV_same {m k : Nat} {x : It (m + 6)} {y : It (k + 6)} {t : List UInt8} (hx : writeI (m + 6) x = some t) (hy : writeI (k + 6) y = some t) : readV x = readW t y := by
 apply Option.ext
 intro c
 rw [readV_iff hx, readW_iff hy]
end Go.Proofs.Ytbiiihjohbnodaa
