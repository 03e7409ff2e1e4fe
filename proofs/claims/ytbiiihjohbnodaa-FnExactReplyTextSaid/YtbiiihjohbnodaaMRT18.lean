/-
  Texts of the proof.
-/
import Derived.Deep.RegionHeld3
import Derived.Deep.Cut
import Derived.Test.YtbiiihjohbnodaaMRT17
set_option maxRecDepth 100000
set_option maxHeartbeats 25600000
namespace Go.Proofs.Ytbiiihjohbnodaa
open Go.RowKit
set_option linter.unusedVariables false
set_option linter.unusedSimpArgs false
theorem answerWrong_any (x : Aw) (v : Value) (w : World) (hz : wtAw x <= 1000000000) (ha : AwAt w v x) :
  Calls Try.prog 63 #[v] w fun e w' => e = .returned (.bool (!awOk x)) /\ Below w.heap.size w w' := by
 obtain ⟨p1, q1, e1, r1, hv⟩ := AwAt.shape ha
 subst hv
 have hrows : TxtAt w (.slice p1 x.path.length q1) x.path /\ TxtAt w (.slice e1 x.lst.length r1) x.lst := AwAt.rows ha
 have hwts : totT x.path <= 1000000000 /\ totT x.lst <= 1000000000 := by unfold wtAw at hz; omega
 obtain ⟨B1, hB1⟩ := zE (inB x.status 0 2)
 have E1 : Hid (∀ W, Below w.heap.size w W -> Calls Try.prog 45 #[.int .i64 2, .int .i64 x.status] W fun e w' => e = .returned (.bool B1) /\ Below W.heap.size W w') := fun W hb => by rw [<- hB1]; exact upTo_any _ _ W
 obtain ⟨B2, hB2⟩ := zE (inB x.why 0 12)
 have E2 : Hid (∀ W, Below w.heap.size w W -> Calls Try.prog 45 #[.int .i64 12, .int .i64 x.why] W fun e w' => e = .returned (.bool B2) /\ Below W.heap.size W w') := fun W hb => by rw [<- hB2]; exact upTo_any _ _ W
 obtain ⟨B3, hB3⟩ := zE (txOk x.path 5)
 have E3 : Hid (∀ W, Below w.heap.size w W -> Calls Try.prog 78 #[.int .i64 5, .slice p1 x.path.length q1] W fun e w' => e = .returned (.bool B3) /\ Below W.heap.size W w') := fun W hb => by rw [<- hB3]; exact textsFit_any x.path _ 5 W hwts.1 (hrows.1.below hb)
 obtain ⟨B4, hB4⟩ := zE (txOk x.lst 8)
 have E4 : Hid (∀ W, Below w.heap.size w W -> Calls Try.prog 78 #[.int .i64 8, .slice e1 x.lst.length r1] W fun e w' => e = .returned (.bool B4) /\ Below W.heap.size W w') := fun W hb => by rw [<- hB4]; exact textsFit_any x.lst _ 8 W hwts.2 (hrows.2.below hb)
 have HC : Hid (awOk x = (B1 && (B2 && (B3 && B4)))) := by show awOk x = _; unfold awOk; rw [hB1, hB2, hB3, hB4]
 clear hB1 hB2 hB3 hB4 hrows hwts hz ha
 unfold awV
 go_enter Try.func63, Try.ntmps63
 go_wp2_with fail
 obtain ⟨V0, hV⟩ : ∃ V, V = w.alloc (Obj.cells #[.int .i64 x.status, .int .i64 x.why, .slice p1 x.path.length q1, .slice e1 x.lst.length r1] 84) := ⟨_, rfl⟩
 rw [<- hV]
 have G0 : Hid (Below w.heap.size w V0 /\ Blk V0 w.heap.size 84 #[.int .i64 x.status, .int .i64 x.why, .slice p1 x.path.length q1, .slice e1 x.lst.length r1]) := by rw [hV]; exact ⟨(Below.refl _ _).alloc (Nat.le_refl _) _, Blk.new w _ _⟩
 clear hV
 refine (E1.out V0 G0.out.1).mono ?_
 rintro e V1 ⟨rfl, hb⟩
 have G1 : Hid (Below w.heap.size w V1 /\ Blk V1 w.heap.size 84 #[.int .i64 x.status, .int .i64 x.why, .slice p1 x.path.length q1, .slice e1 x.lst.length r1]) := ⟨G0.out.1.trans (hb.mono G0.out.1.size), G0.out.2.below hb G0.out.2.lt⟩
 clear hb E1 G0
 have d10 : V1.cell? ⟨w.heap.size, 0, none⟩ = some (.int .i64 x.status) := G1.out.2.cell 0
 have d11 : V1.cell? ⟨w.heap.size, 1, none⟩ = some (.int .i64 x.why) := G1.out.2.cell 1
 have d12 : V1.cell? ⟨w.heap.size, 2, none⟩ = some (.slice p1 x.path.length q1) := G1.out.2.cell 2
 have d13 : V1.cell? ⟨w.heap.size, 3, none⟩ = some (.slice e1 x.lst.length r1) := G1.out.2.cell 3
 cases B1 with
 | false =>
  go_wp2_with fail
  go_ret
  exact ⟨by rw [HC.out]; simp, G1.out.1⟩
 | true =>
  go_wp2_with fail
  refine (E2.out V1 G1.out.1).mono ?_
  rintro e V2 ⟨rfl, hb⟩
  have G2 : Hid (Below w.heap.size w V2 /\ Blk V2 w.heap.size 84 #[.int .i64 x.status, .int .i64 x.why, .slice p1 x.path.length q1, .slice e1 x.lst.length r1]) := ⟨G1.out.1.trans (hb.mono G1.out.1.size), G1.out.2.below hb G1.out.2.lt⟩
  clear hb E2 G1
  have d20 : V2.cell? ⟨w.heap.size, 0, none⟩ = some (.int .i64 x.status) := G2.out.2.cell 0
  have d21 : V2.cell? ⟨w.heap.size, 1, none⟩ = some (.int .i64 x.why) := G2.out.2.cell 1
  have d22 : V2.cell? ⟨w.heap.size, 2, none⟩ = some (.slice p1 x.path.length q1) := G2.out.2.cell 2
  have d23 : V2.cell? ⟨w.heap.size, 3, none⟩ = some (.slice e1 x.lst.length r1) := G2.out.2.cell 3
  cases B2 with
  | false =>
   go_wp2_with fail
   go_ret
   exact ⟨by rw [HC.out]; simp, G2.out.1⟩
  | true =>
   go_wp2_with fail
   refine (E3.out V2 G2.out.1).mono ?_
   rintro e V3 ⟨rfl, hb⟩
   have G3 : Hid (Below w.heap.size w V3 /\ Blk V3 w.heap.size 84 #[.int .i64 x.status, .int .i64 x.why, .slice p1 x.path.length q1, .slice e1 x.lst.length r1]) := ⟨G2.out.1.trans (hb.mono G2.out.1.size), G2.out.2.below hb G2.out.2.lt⟩
   clear hb E3 G2
   have d30 : V3.cell? ⟨w.heap.size, 0, none⟩ = some (.int .i64 x.status) := G3.out.2.cell 0
   have d31 : V3.cell? ⟨w.heap.size, 1, none⟩ = some (.int .i64 x.why) := G3.out.2.cell 1
   have d32 : V3.cell? ⟨w.heap.size, 2, none⟩ = some (.slice p1 x.path.length q1) := G3.out.2.cell 2
   have d33 : V3.cell? ⟨w.heap.size, 3, none⟩ = some (.slice e1 x.lst.length r1) := G3.out.2.cell 3
   cases B3 with
   | false =>
    go_wp2_with fail
    go_ret
    exact ⟨by rw [HC.out]; simp, G3.out.1⟩
   | true =>
    go_wp2_with fail
    refine (E4.out V3 G3.out.1).mono ?_
    rintro e V4 ⟨rfl, hb⟩
    have G4 : Hid (Below w.heap.size w V4 /\ Blk V4 w.heap.size 84 #[.int .i64 x.status, .int .i64 x.why, .slice p1 x.path.length q1, .slice e1 x.lst.length r1]) := ⟨G3.out.1.trans (hb.mono G3.out.1.size), G3.out.2.below hb G3.out.2.lt⟩
    clear hb E4 G3
    have d40 : V4.cell? ⟨w.heap.size, 0, none⟩ = some (.int .i64 x.status) := G4.out.2.cell 0
    have d41 : V4.cell? ⟨w.heap.size, 1, none⟩ = some (.int .i64 x.why) := G4.out.2.cell 1
    have d42 : V4.cell? ⟨w.heap.size, 2, none⟩ = some (.slice p1 x.path.length q1) := G4.out.2.cell 2
    have d43 : V4.cell? ⟨w.heap.size, 3, none⟩ = some (.slice e1 x.lst.length r1) := G4.out.2.cell 3
    cases B4 with
    | false =>
     go_wp2_with fail
     go_ret
     exact ⟨by rw [HC.out]; simp, G4.out.1⟩
    | true =>
     go_wp2_with fail
     go_ret
     exact ⟨by rw [HC.out]; simp, G4.out.1⟩
theorem indexWrong_any (l : List Aw) (v : Value) (w : World) (hz : wtAS l <= 1000000000) (ha : AtS awKd w v l) :
  Calls Try.prog 99 #[v, .func (.func 63) #[] #[]] w fun e w' => IxP (!l.all awOk) w e w' := by
 obtain ⟨pa, pc, hpa⟩ := ha.shape
 obtain ⟨n, hn⟩ := zE (l.length)
 rw [hn] at hpa
 subst hpa
 have hnl : n <= 1000000000 := by have := wtAS_len l; omega
 have HT : Hid (AtS awKd w (.slice pa n pc) l /\ l.length = n) := ⟨ha, hn⟩
 have HZ : Hid (wtAS l <= 1000000000) := hz
 clear ha hn hz
 go_enter Try.func99, Try.ntmps99
 go_wp2_with fail
 go_loopw [8] (fun iv wr => ∃ k : Nat, k <= n /\ iv = .int .i64 k /\ Hid (∀ j (hj : j < l.length), j < k -> awOk l[j] = true) /\ Hid (Below w.heap.size w wr)) (fun iv _ => n - (intOf iv).toNat)
 case atStart => exact ⟨0, Nat.zero_le _, rfl, fun j _ hj => absurd hj (Nat.not_lt_zero _), Below.refl _ _⟩
 case round =>
  obtain ⟨k, hk, rfl, HL, G1⟩ := hrel
  by_cases hlt : k < n
  ·have hkl : k < l.length := by rw [HT.out.2]; exact hlt
   obtain ⟨b, off, u, hao, hbB, hPu, hus, hcell⟩ := HT.out.1.get hkl
   obtain ⟨p1, q1, e1, r1, hu⟩ := AwAt.shape hPu
   obtain ⟨x, hx⟩ := zE (l[k])
   rw [hx] at hu
   have hxw : wtAw x <= 1000000000 := by rw [<- hx]; exact Nat.le_trans (wtAS_mem (List.getElem_mem hkl)) HZ.out
   have hcb := fun i z (hz : u.cells[i]? = some z) => (G1.out.cell (p := ⟨b, off + k * 4 + i, none⟩) (by show b < w.heap.size; exact hbB)).trans (hcell i z hz)
   have HP : AwAt w u x := by rw [<- hx]; exact hPu
   subst hao hu
   have u0 : wr.cell? ⟨b, off + k * 4, none⟩ = some (.int .i64 x.status) := hcb 0 _ rfl
   have u1 : wr.cell? ⟨b, off + k * 4 + 1, none⟩ = some (.int .i64 x.why) := hcb 1 _ rfl
   have u2 : wr.cell? ⟨b, off + k * 4 + 2, none⟩ = some (.slice p1 x.path.length q1) := hcb 2 _ rfl
   have u3 : wr.cell? ⟨b, off + k * 4 + 3, none⟩ = some (.slice e1 x.lst.length r1) := hcb 3 _ rfl
   have EA := answerWrong_any x _ wr hxw (HP.below G1.out)
   have HX : Hid (l[k] = x) := hx
   obtain ⟨B, hB⟩ := zE (awOk x)
   rw [hB] at EA
   have HB : Hid (awOk x = B) := hB
   have hki : (k : Int) < (n : Int) := by omega
   have hk0 : (0 : Int) <= (k : Int) := by omega
   clear hcb hcell hPu hus hbB hx hxw HP hB
   unfold awV at EA
   go_wp2_with fail
   refine EA.mono ?_
   rintro e w2 ⟨rfl, hb⟩
   have G2 : Hid (Below w.heap.size w w2) := G1.out.trans (hb.mono G1.out.size)
   clear EA hb G1 u0 u1 u2 u3
   cases B with
   | false =>
    have HF : Hid (l.all awOk = false) := awAll_no hkl (by rw [HX.out, HB.out])
    go_wp2_with fail
    go_ret
    exact ⟨_, rfl, by rw [HF.out]; exact decide_eq_true hk0, G2.out⟩
   | true =>
    have HN : Hid (∀ j (hj : j < l.length), j < k + 1 -> awOk l[j] = true) := fun j hj h => by
     rcases Nat.lt_or_ge j k with h | h
     ·exact HL.out j hj h
     ·have : j = k := by omega
      subst this
      rw [HX.out, HB.out]
    clear HL
    go_wp2_with fail
    go_roundw
    case rel => exact ⟨k + 1, by omega, by go_num, HN, G2⟩
    case measure => simp [intOf]; omega
  ·have hkl : n = k := by omega
   subst hkl
   have HF : Hid (l.all awOk = true) := awAll_yes (fun j hj => HL.out j hj (by rw [<- HT.out.2]; exact hj))
   go_wp2_with fail
   go_ret
   exact ⟨_, rfl, by rw [HF.out]; rfl, G1.out⟩
theorem containsWrong_any (l : List Aw) (v : Value) (w : World) (hz : wtAS l <= 1000000000) (ha : AtS awKd w v l) :
  Calls Try.prog 62 #[v, .func (.func 63) #[] #[]] w fun e w' => e = .returned (.bool (!l.all awOk)) /\ Below w.heap.size w w' := by
 have EA := indexWrong_any l v w hz ha
 obtain ⟨pa, pc, hpa⟩ := ha.shape
 obtain ⟨n, hn⟩ := zE (l.length)
 rw [hn] at hpa
 subst hpa
 obtain ⟨B, hB⟩ := zE ((!l.all awOk))
 rw [hB] at EA |-
 clear hB hz ha hn
 go_enter Try.func62, Try.ntmps62
 go_wp2_with fail
 refine EA.mono ?_
 rintro e w2 ⟨n, rfl, hn, hb⟩
 have G2 : Hid (Below w.heap.size w w2) := hb
 have HN : Hid (decide (0 <= n) = B) := hn
 clear EA hb hn
 go_wp2_with fail
 go_ret
 exact ⟨by show Ending.returned (.bool (decide (0 <= n))) = _; rw [HN.out], G2.out⟩
theorem implReplyOk_any (c : Rp) (v : Value) (w : World) (hz : wtR c <= 1000000000) (ha : RpAt w v c) :
  Calls Try.prog 25 #[v] w fun e w' => e = .returned (.bool (replyOk c)) /\ Below w.heap.size w w' := by
 obtain ⟨pv, rfl, h1⟩ := ha
 obtain ⟨pa, pc, hpa⟩ := h1.shape
 obtain ⟨n, hn⟩ := zE (c.ans.length)
 rw [hn] at hpa
 subst hpa
 have hz1 : wtAS c.ans <= 1000000000 := wtR_ans hz
 have hnl : n <= 1000000000 := by have := wtAS_len c.ans; omega
 have hsz : c.hash.size <= 1000000000 /\ c.sig.size <= 1000000000 := by unfold wtR at hz; omega
 obtain ⟨C1, hC1⟩ := zE (inB c.nonce 0 1000000000)
 have F1 : Hid (∀ W, Below w.heap.size w W -> Calls Try.prog 45 #[.int .i64 1000000000, .int .i64 c.nonce] W fun e w' => e = .returned (.bool C1) /\ Below W.heap.size W w') := fun W hb => by rw [<- hC1]; exact upTo_any _ _ W
 obtain ⟨C2, hC2⟩ := zE (inB c.time 0 19999)
 have F2 : Hid (∀ W, Below w.heap.size w W -> Calls Try.prog 45 #[.int .i64 19999, .int .i64 c.time] W fun e w' => e = .returned (.bool C2) /\ Below W.heap.size W w') := fun W hb => by rw [<- hC2]; exact upTo_any _ _ W
 obtain ⟨C3, hC3⟩ := zE (inB c.next 0 19999)
 have F3 : Hid (∀ W, Below w.heap.size w W -> Calls Try.prog 45 #[.int .i64 19999, .int .i64 c.next] W fun e w' => e = .returned (.bool C3) /\ Below W.heap.size W w') := fun W hb => by rw [<- hC3]; exact upTo_any _ _ W
 obtain ⟨C4, hC4⟩ := zE (inB c.plan 0 99)
 have F4 : Hid (∀ W, Below w.heap.size w W -> Calls Try.prog 45 #[.int .i64 99, .int .i64 c.plan] W fun e w' => e = .returned (.bool C4) /\ Below W.heap.size W w') := fun W hb => by rw [<- hC4]; exact upTo_any _ _ W
 obtain ⟨C5, hC5⟩ := zE (inB c.err 0 2)
 have F5 : Hid (∀ W, Below w.heap.size w W -> Calls Try.prog 45 #[.int .i64 2, .int .i64 c.err] W fun e w' => e = .returned (.bool C5) /\ Below W.heap.size W w') := fun W hb => by rw [<- hC5]; exact upTo_any _ _ W
 obtain ⟨C6, hC6⟩ := zE (c.ans.all awOk)
 have F6 : Hid (∀ W, Below w.heap.size w W -> Calls Try.prog 62 #[.slice pa n pc, .func (.func 63) #[] #[]] W fun e w' => e = .returned (.bool (!C6)) /\ Below W.heap.size W w') := fun W hb => by rw [<- hC6]; exact containsWrong_any _ _ W hz1 (h1.below hb)
 have HT : Hid (c.ans.length = n) := hn
 by_cases h32 : c.hash.size = 32
 rotate_left
 ·have h32i : ¬ (c.hash.size : Int) = 32 := by omega
  have HF : Hid (replyOk c = false) := by show replyOk c = false; unfold replyOk; rw [decide_eq_false h32]; simp
  clear hC1 hC2 hC3 hC4 hC5 hC6 h1 hn hz hz1 h32 F1 F2 F3 F4 F5 F6
  unfold rpV
  go_enter Try.func25, Try.ntmps25
  go_wp2_with fail
  go_ret
  exact ⟨by rw [HF.out]; rfl, (Below.refl _ _).alloc (Nat.le_refl _) _⟩
 have h32i : (c.hash.size : Int) = 32 := by omega
 have HC : Hid (replyOk c = (C1 && (C2 && (C3 && (C4 && (C5 && (decide (c.ans.length <= 3) && (C6 && decide (c.sig.size = 15))))))))) := by
  show replyOk c = _
  unfold replyOk
  rw [hC1, hC2, hC3, hC4, hC5, hC6, decide_eq_true h32]
  cases C6 <;> simp
 clear hC1 hC2 hC3 hC4 hC5 hC6 h1 hn hz hz1 h32
 unfold rpV
 go_enter Try.func25, Try.ntmps25
 go_wp2_with fail
 obtain ⟨V0, hV⟩ : ∃ V, V = w.alloc (Obj.cells #[.string c.hash, .int .i64 c.nonce, .int .i64 c.time, .int .i64 c.next, .int .i64 c.plan, .int .i64 c.err, .slice pa n pc, .string c.sig] 44) := ⟨_, rfl⟩
 rw [<- hV]
 have G0 : Hid (Below w.heap.size w V0 /\ Blk V0 w.heap.size 44 #[.string c.hash, .int .i64 c.nonce, .int .i64 c.time, .int .i64 c.next, .int .i64 c.plan, .int .i64 c.err, .slice pa n pc, .string c.sig]) := by rw [hV]; exact ⟨(Below.refl _ _).alloc (Nat.le_refl _) _, Blk.new w _ _⟩
 clear hV
 refine (F1.out V0 G0.out.1).mono ?_
 rintro e V1 ⟨rfl, hb⟩
 have G1 : Hid (Below w.heap.size w V1 /\ Blk V1 w.heap.size 44 #[.string c.hash, .int .i64 c.nonce, .int .i64 c.time, .int .i64 c.next, .int .i64 c.plan, .int .i64 c.err, .slice pa n pc, .string c.sig]) := ⟨G0.out.1.trans (hb.mono G0.out.1.size), G0.out.2.below hb G0.out.2.lt⟩
 clear hb F1 G0
 have d10 : V1.cell? ⟨w.heap.size, 0, none⟩ = some (.string c.hash) := G1.out.2.cell 0
 have d11 : V1.cell? ⟨w.heap.size, 1, none⟩ = some (.int .i64 c.nonce) := G1.out.2.cell 1
 have d12 : V1.cell? ⟨w.heap.size, 2, none⟩ = some (.int .i64 c.time) := G1.out.2.cell 2
 have d13 : V1.cell? ⟨w.heap.size, 3, none⟩ = some (.int .i64 c.next) := G1.out.2.cell 3
 have d14 : V1.cell? ⟨w.heap.size, 4, none⟩ = some (.int .i64 c.plan) := G1.out.2.cell 4
 have d15 : V1.cell? ⟨w.heap.size, 5, none⟩ = some (.int .i64 c.err) := G1.out.2.cell 5
 have d16 : V1.cell? ⟨w.heap.size, 6, none⟩ = some (.slice pa n pc) := G1.out.2.cell 6
 have d17 : V1.cell? ⟨w.heap.size, 7, none⟩ = some (.string c.sig) := G1.out.2.cell 7
 cases C1 with
 | false =>
  go_wp2_with fail
  go_ret
  exact ⟨by rw [HC.out]; simp, G1.out.1⟩
 | true =>
  go_wp2_with fail
  refine (F2.out V1 G1.out.1).mono ?_
  rintro e V2 ⟨rfl, hb⟩
  have G2 : Hid (Below w.heap.size w V2 /\ Blk V2 w.heap.size 44 #[.string c.hash, .int .i64 c.nonce, .int .i64 c.time, .int .i64 c.next, .int .i64 c.plan, .int .i64 c.err, .slice pa n pc, .string c.sig]) := ⟨G1.out.1.trans (hb.mono G1.out.1.size), G1.out.2.below hb G1.out.2.lt⟩
  clear hb F2 G1
  have d20 : V2.cell? ⟨w.heap.size, 0, none⟩ = some (.string c.hash) := G2.out.2.cell 0
  have d21 : V2.cell? ⟨w.heap.size, 1, none⟩ = some (.int .i64 c.nonce) := G2.out.2.cell 1
  have d22 : V2.cell? ⟨w.heap.size, 2, none⟩ = some (.int .i64 c.time) := G2.out.2.cell 2
  have d23 : V2.cell? ⟨w.heap.size, 3, none⟩ = some (.int .i64 c.next) := G2.out.2.cell 3
  have d24 : V2.cell? ⟨w.heap.size, 4, none⟩ = some (.int .i64 c.plan) := G2.out.2.cell 4
  have d25 : V2.cell? ⟨w.heap.size, 5, none⟩ = some (.int .i64 c.err) := G2.out.2.cell 5
  have d26 : V2.cell? ⟨w.heap.size, 6, none⟩ = some (.slice pa n pc) := G2.out.2.cell 6
  have d27 : V2.cell? ⟨w.heap.size, 7, none⟩ = some (.string c.sig) := G2.out.2.cell 7
  cases C2 with
  | false =>
   go_wp2_with fail
   go_ret
   exact ⟨by rw [HC.out]; simp, G2.out.1⟩
  | true =>
   go_wp2_with fail
   refine (F3.out V2 G2.out.1).mono ?_
   rintro e V3 ⟨rfl, hb⟩
   have G3 : Hid (Below w.heap.size w V3 /\ Blk V3 w.heap.size 44 #[.string c.hash, .int .i64 c.nonce, .int .i64 c.time, .int .i64 c.next, .int .i64 c.plan, .int .i64 c.err, .slice pa n pc, .string c.sig]) := ⟨G2.out.1.trans (hb.mono G2.out.1.size), G2.out.2.below hb G2.out.2.lt⟩
   clear hb F3 G2
   have d30 : V3.cell? ⟨w.heap.size, 0, none⟩ = some (.string c.hash) := G3.out.2.cell 0
   have d31 : V3.cell? ⟨w.heap.size, 1, none⟩ = some (.int .i64 c.nonce) := G3.out.2.cell 1
   have d32 : V3.cell? ⟨w.heap.size, 2, none⟩ = some (.int .i64 c.time) := G3.out.2.cell 2
   have d33 : V3.cell? ⟨w.heap.size, 3, none⟩ = some (.int .i64 c.next) := G3.out.2.cell 3
   have d34 : V3.cell? ⟨w.heap.size, 4, none⟩ = some (.int .i64 c.plan) := G3.out.2.cell 4
   have d35 : V3.cell? ⟨w.heap.size, 5, none⟩ = some (.int .i64 c.err) := G3.out.2.cell 5
   have d36 : V3.cell? ⟨w.heap.size, 6, none⟩ = some (.slice pa n pc) := G3.out.2.cell 6
   have d37 : V3.cell? ⟨w.heap.size, 7, none⟩ = some (.string c.sig) := G3.out.2.cell 7
   cases C3 with
   | false =>
    go_wp2_with fail
    go_ret
    exact ⟨by rw [HC.out]; simp, G3.out.1⟩
   | true =>
    go_wp2_with fail
    refine (F4.out V3 G3.out.1).mono ?_
    rintro e V4 ⟨rfl, hb⟩
    have G4 : Hid (Below w.heap.size w V4 /\ Blk V4 w.heap.size 44 #[.string c.hash, .int .i64 c.nonce, .int .i64 c.time, .int .i64 c.next, .int .i64 c.plan, .int .i64 c.err, .slice pa n pc, .string c.sig]) := ⟨G3.out.1.trans (hb.mono G3.out.1.size), G3.out.2.below hb G3.out.2.lt⟩
    clear hb F4 G3
    have d40 : V4.cell? ⟨w.heap.size, 0, none⟩ = some (.string c.hash) := G4.out.2.cell 0
    have d41 : V4.cell? ⟨w.heap.size, 1, none⟩ = some (.int .i64 c.nonce) := G4.out.2.cell 1
    have d42 : V4.cell? ⟨w.heap.size, 2, none⟩ = some (.int .i64 c.time) := G4.out.2.cell 2
    have d43 : V4.cell? ⟨w.heap.size, 3, none⟩ = some (.int .i64 c.next) := G4.out.2.cell 3
    have d44 : V4.cell? ⟨w.heap.size, 4, none⟩ = some (.int .i64 c.plan) := G4.out.2.cell 4
    have d45 : V4.cell? ⟨w.heap.size, 5, none⟩ = some (.int .i64 c.err) := G4.out.2.cell 5
    have d46 : V4.cell? ⟨w.heap.size, 6, none⟩ = some (.slice pa n pc) := G4.out.2.cell 6
    have d47 : V4.cell? ⟨w.heap.size, 7, none⟩ = some (.string c.sig) := G4.out.2.cell 7
    cases C4 with
    | false =>
     go_wp2_with fail
     go_ret
     exact ⟨by rw [HC.out]; simp, G4.out.1⟩
    | true =>
     go_wp2_with fail
     refine (F5.out V4 G4.out.1).mono ?_
     rintro e V5 ⟨rfl, hb⟩
     have G5 : Hid (Below w.heap.size w V5 /\ Blk V5 w.heap.size 44 #[.string c.hash, .int .i64 c.nonce, .int .i64 c.time, .int .i64 c.next, .int .i64 c.plan, .int .i64 c.err, .slice pa n pc, .string c.sig]) := ⟨G4.out.1.trans (hb.mono G4.out.1.size), G4.out.2.below hb G4.out.2.lt⟩
     clear hb F5 G4
     have d50 : V5.cell? ⟨w.heap.size, 0, none⟩ = some (.string c.hash) := G5.out.2.cell 0
     have d51 : V5.cell? ⟨w.heap.size, 1, none⟩ = some (.int .i64 c.nonce) := G5.out.2.cell 1
     have d52 : V5.cell? ⟨w.heap.size, 2, none⟩ = some (.int .i64 c.time) := G5.out.2.cell 2
     have d53 : V5.cell? ⟨w.heap.size, 3, none⟩ = some (.int .i64 c.next) := G5.out.2.cell 3
     have d54 : V5.cell? ⟨w.heap.size, 4, none⟩ = some (.int .i64 c.plan) := G5.out.2.cell 4
     have d55 : V5.cell? ⟨w.heap.size, 5, none⟩ = some (.int .i64 c.err) := G5.out.2.cell 5
     have d56 : V5.cell? ⟨w.heap.size, 6, none⟩ = some (.slice pa n pc) := G5.out.2.cell 6
     have d57 : V5.cell? ⟨w.heap.size, 7, none⟩ = some (.string c.sig) := G5.out.2.cell 7
     cases C5 with
     | false =>
      go_wp2_with fail
      go_ret
      exact ⟨by rw [HC.out]; simp, G5.out.1⟩
     | true =>
      by_cases h3 : n <= 3
      rotate_left
      ·have h3i : ¬ (n : Int) <= 3 := by omega
       have HF : Hid (replyOk c = false) := by show replyOk c = false; rw [HC.out, decide_eq_false (by rw [HT.out]; exact h3)]; simp
       clear h3
       go_wp2_with fail
       go_ret
       exact ⟨by rw [HF.out]; rfl, G5.out.1⟩
      have h3i : (n : Int) <= 3 := by omega
      have HC3 : Hid (replyOk c = (C6 && decide (c.sig.size = 15))) := by show replyOk c = _; rw [HC.out, decide_eq_true (by rw [HT.out]; exact h3)]; simp
      clear HC h3
      go_wp2_with fail
      refine (F6.out V5 G5.out.1).mono ?_
      rintro e V6 ⟨rfl, hb⟩
      have G6 : Hid (Below w.heap.size w V6 /\ Blk V6 w.heap.size 44 #[.string c.hash, .int .i64 c.nonce, .int .i64 c.time, .int .i64 c.next, .int .i64 c.plan, .int .i64 c.err, .slice pa n pc, .string c.sig]) := ⟨G5.out.1.trans (hb.mono G5.out.1.size), G5.out.2.below hb G5.out.2.lt⟩
      clear hb F6 G5
      have d60 : V6.cell? ⟨w.heap.size, 0, none⟩ = some (.string c.hash) := G6.out.2.cell 0
      have d61 : V6.cell? ⟨w.heap.size, 1, none⟩ = some (.int .i64 c.nonce) := G6.out.2.cell 1
      have d62 : V6.cell? ⟨w.heap.size, 2, none⟩ = some (.int .i64 c.time) := G6.out.2.cell 2
      have d63 : V6.cell? ⟨w.heap.size, 3, none⟩ = some (.int .i64 c.next) := G6.out.2.cell 3
      have d64 : V6.cell? ⟨w.heap.size, 4, none⟩ = some (.int .i64 c.plan) := G6.out.2.cell 4
      have d65 : V6.cell? ⟨w.heap.size, 5, none⟩ = some (.int .i64 c.err) := G6.out.2.cell 5
      have d66 : V6.cell? ⟨w.heap.size, 6, none⟩ = some (.slice pa n pc) := G6.out.2.cell 6
      have d67 : V6.cell? ⟨w.heap.size, 7, none⟩ = some (.string c.sig) := G6.out.2.cell 7
      cases C6 with
      | false =>
       go_wp2_with fail
       go_ret
       exact ⟨by rw [HC3.out]; simp, G6.out.1⟩
      | true =>
       by_cases h15 : c.sig.size = 15
       ·have h15i : (c.sig.size : Int) = 15 := by omega
        have HF : Hid (replyOk c = true) := by show replyOk c = true; rw [HC3.out, decide_eq_true h15]; rfl
        clear h15
        go_wp2_with fail
        go_ret
        exact ⟨by rw [HF.out]; try rfl, G6.out.1⟩
       ·have h15i : ¬ (c.sig.size : Int) = 15 := by omega
        have HF : Hid (replyOk c = false) := by show replyOk c = false; rw [HC3.out, decide_eq_false h15]; rfl
        clear h15
        go_wp2_with fail
        go_ret
        exact ⟨by rw [HF.out]; first | rfl | (show Ending.returned (.bool (decide ((c.sig.size : Int) = 15))) = _; rw [decide_eq_false h15i]) | simp [h15i], G6.out.1⟩
end Go.Proofs.Ytbiiihjohbnodaa
namespace Go.Proofs.Ytbiiihjohbnodaa
open Go.RowKit Der
set_option linter.unusedVariables false
set_option linter.unusedSimpArgs false
theorem implReplyText_any (c : Rp) (v : Value) (w : World) (hz : wtR c <= 1048576) (hw : WdRp c) (ha : RpAt w v c) : Calls Try.prog 30 #[v] w fun e w' => e = .returned (.tuple #[.string ⟨((rtxt c).getD []).toArray⟩, .bool (rtxt c).isSome]) /\ Below w.heap.size w w' := by
 obtain ⟨pa, pc, hv⟩ := RpAt.shape ha
 subst hv
 have HC : Hid (RpAt w _ c) := ha
 clear ha
 unfold rpV at HC |-
 obtain ⟨T, hT⟩ : ∃ T : ByteArray, (⟨((rtxt c).getD []).toArray⟩ : ByteArray) = T := ⟨_, rfl⟩
 obtain ⟨okT, hok⟩ := zE ((rtxt c).isSome)
 rw [hT, hok]
 have HT : Hid ((⟨((rtxt c).getD []).toArray⟩ : ByteArray) = T /\ (rtxt c).isSome = okT) := ⟨hT, hok⟩
 have HZ : Hid (wtR c <= 1048576 /\ WdRp c) := ⟨hz, hw⟩
 clear hT hz hw hok
 obtain ⟨B, hB⟩ := zE (replyOk c)
 have HB : Hid (replyOk c = B) := hB
 go_enter Try.func30, Try.ntmps30
 go_wp2_with fail
 obtain ⟨W1, hW1⟩ : ∃ W, W = w.alloc (Obj.cells #[.string c.hash, .int .i64 c.nonce, .int .i64 c.time, .int .i64 c.next, .int .i64 c.plan, .int .i64 c.err, .slice pa c.ans.length pc, .string c.sig] 44) := ⟨_, rfl⟩
 rw [<- hW1]
 have H1 : Hid (KRb w W1 #[.string c.hash, .int .i64 c.nonce, .int .i64 c.time, .int .i64 c.next, .int .i64 c.plan, .int .i64 c.err, .slice pa c.ans.length pc, .string c.sig]) := KRb.start hW1
 clear hW1
 have E1 := implReplyOk_any c _ W1 (Nat.le_trans HZ.out.1 (by decide)) (HC.out.below H1.out.1)
 rw [hB] at E1
 clear hB
 refine E1.mono ?_
 rintro e w2 ⟨rfl, hb2⟩
 have H2 : Hid (KRb w w2 #[.string c.hash, .int .i64 c.nonce, .int .i64 c.time, .int .i64 c.next, .int .i64 c.plan, .int .i64 c.err, .slice pa c.ans.length pc, .string c.sig]) := H1.out.below hb2
 clear E1 H1 hb2
 cases B with
 | false =>
  have HN : Hid (T = ⟨#[]⟩ /\ okT = false) := by
   have e : rtxt c = none := by unfold rtxt; rw [HB.out]; rfl
   rw [<- HT.out.1, <- HT.out.2, e]
   exact ⟨rfl, rfl⟩
  go_wp2_with fail
  go_ret2
  exact ⟨by rw [HN.out.1, HN.out.2]; rfl, H2.out.1⟩
 | true =>
  have HE : Hid (rtxt c = writeI 6 (replyI c)) := by show rtxt c = _; unfold rtxt; rw [HB.out]; rfl
  go_wp2_with fail
  refine wp_region_held_drew (S := fun W => KRb w W #[.string c.hash, .int .i64 c.nonce, .int .i64 c.time, .int .i64 c.next, .int .i64 c.plan, .int .i64 c.err, .slice pa c.ans.length pc, .string c.sig]) (by kernel_rfl) (KRb.below H2.out ((Below.refl _ _).drew)) (fun hHeld => ?_)
  clear H2
  generalize w2.drew = Wd at hHeld |-
  refine zT 0 7 ?_ rfl (by rfl) ?_ hHeld ?_
  rotate_left
  ·intro W hSw
   have c0 : W.cell? ⟨w.heap.size, 0, none⟩ = some (.string c.hash) := hSw.2.cell 0
   have c1 : W.cell? ⟨w.heap.size, 1, none⟩ = some (.int .i64 c.nonce) := hSw.2.cell 1
   have c2 : W.cell? ⟨w.heap.size, 2, none⟩ = some (.int .i64 c.time) := hSw.2.cell 2
   have c3 : W.cell? ⟨w.heap.size, 3, none⟩ = some (.int .i64 c.next) := hSw.2.cell 3
   have c4 : W.cell? ⟨w.heap.size, 4, none⟩ = some (.int .i64 c.plan) := hSw.2.cell 4
   have c5 : W.cell? ⟨w.heap.size, 5, none⟩ = some (.int .i64 c.err) := hSw.2.cell 5
   have c6 : W.cell? ⟨w.heap.size, 6, none⟩ = some (.slice pa c.ans.length pc) := hSw.2.cell 6
   have c7 : W.cell? ⟨w.heap.size, 7, none⟩ = some (.string c.sig) := hSw.2.cell 7
   go_simp
   try with_reducible rfl
  try simp only [Act.put, zA, zB, zC]
  refine zT 2 9 ?_ rfl (by rfl) ?_ hHeld ?_
  rotate_left
  ·intro W hSw
   go_simp
   try with_reducible rfl
  try simp only [Act.put, zA, zB, zC]
  refine zT 3 10 ?_ rfl (by rfl) ?_ hHeld ?_
  rotate_left
  ·intro W hSw
   have c7 : W.cell? ⟨w.heap.size, 7, none⟩ = some (.string c.sig) := hSw.2.cell 7
   go_simp
   try with_reducible rfl
  try simp only [Act.put, zA, zB, zC]
  refine wpAnyH_ready (rs := [1]) (by kernel_rfl) (by simp) ?_
  refine AllReadyH.cons (o := ⟨some 8, _, _, _, _, _⟩) rfl (fun K hK => ?_) AllReadyH.nil
  go_simp
  refine (replyItem_any c _ _ (Nat.le_trans HZ.out.1 (by decide)) HZ.out.2 (HC.out.below hHeld.1)).mono ?_
  intro e v1 hto
  obtain ⟨a1, l1, x1, f1, rfl, ho1, hv⟩ := to_bodyR hto
  clear hto
  have hH := KRb.below hHeld hv
  have HO : Hid (OwnK v1 w.heap.size 4 (.slice a1 l1 x1) (It.kids (bodyR c)) f1) := OwnK.base hHeld.1.size ho1
  clear ho1
  go_wp2_with fail
  refine hK.out _ _ hH (fun hHeld => ?_)
  clear hK K hH hv
  try simp only [Act.put, zA, zB, zC]
  refine wpAnyH_ready (rs := [4]) (by kernel_rfl) (by simp) ?_
  refine AllReadyH.cons (o := ⟨some 11, _, _, _, _, _⟩) rfl (fun K hK => ?_) AllReadyH.nil
  go_simp
  refine (signedItem_any 4 (bodyR c) 48 ⟨#[]⟩ c.sig (.slice a1 l1 x1) f1 w.heap.size _ rfl rfl ⟨_, _, _, rfl⟩ (by have := HZ.out.1; unfold wtR at this; omega) HO.out hHeld.1.size).mono ?_
  rintro e v2 ⟨q2, f2, rfl, ho2, hv⟩
  have hH := KRb.below hHeld hv
  have HI : Hid (ItAt v2 6 (.agg #[.int .i64 48, .string ⟨#[]⟩, .slice (some ⟨q2, 0, none⟩) 2 2]) (replyI c)) := ⟨_, rfl, ho2.at⟩
  clear HO ho2
  go_wp2_with fail
  refine hK.out _ _ hH (fun hHeld => ?_)
  clear hK K hH hv
  try simp only [Act.put, zA, zB, zC]
  refine wpAnyH_ready (rs := [5]) (by kernel_rfl) (by simp) ?_
  refine AllReadyH.cons (o := ⟨some 12, _, _, _, _, _⟩) rfl (fun K hK => ?_) AllReadyH.nil
  have E7 := implItemText_any 6 (replyI c) _ v2 HI.out (Nat.le_trans (sz_replyI HZ.out.1) (by decide))
  rw [<- HE.out, HT.out.1, HT.out.2] at E7
  go_simp
  refine E7.mono ?_
  rintro e v4 ⟨rfl, hv⟩
  have hH := KRb.below hHeld hv
  clear E7
  go_wp2_with fail
  refine hK.out _ _ hH (fun hHeld => ?_)
  clear hK K hH hv
  try simp only [Act.put, zA, zB, zC]
  refine zT 6 13 ?_ rfl (by rfl) ?_ hHeld ?_
  rotate_left
  ·intro W hSw
   go_simp
   try with_reducible rfl
  try simp only [Act.put, zA, zB, zC]
  refine zT 7 14 ?_ rfl (by rfl) ?_ hHeld ?_
  rotate_left
  ·intro W hSw
   go_simp
   try with_reducible rfl
  try simp only [Act.put, zA, zB, zC]
  refine zT 8 2 ?_ rfl (by rfl) ?_ hHeld ?_
  rotate_left
  ·intro W hSw
   go_simp
   try with_reducible rfl
  try simp only [Act.put, zA, zB, zC]
  refine zT 9 3 ?_ rfl (by rfl) ?_ hHeld ?_
  rotate_left
  ·intro W hSw
   go_simp
   try with_reducible rfl
  try simp only [Act.put, zA, zB, zC]
  refine wpAnyH_done (by kernel_rfl) ?_ _
  have HEND : Hid (Below w.heap.size w _) := hHeld.1
  clear hHeld
  go_wp2_with fail
  go_ret2
  exact ⟨rfl, HEND.out⟩
def KM5 (w W : World) (a : Array Value) (kv : Value) : Prop := Below w.heap.size w W /\ Blk W w.heap.size 44 a /\ (∃ x y z, Blk3 W (w.heap.size + 1) x y z) /\ Blk3 W (w.heap.size + 1 + 1) (.int .i64 48) (.string ⟨#[]⟩) kv
theorem KM5.below {w W W' : World} {a : Array Value} {kv : Value} (h : KM5 w W a kv) (hb : Below W.heap.size W W') : KM5 w W' a kv := by
 obtain ⟨h1, h2, ⟨x, y, z, h3⟩, h4⟩ := h
 exact ⟨h1.trans (hb.mono h1.size), h2.below hb h2.lt, ⟨x, y, z, h3.below hb⟩, h4.below hb⟩
theorem KM5.size {w W : World} {a : Array Value} {kv : Value} (h : KM5 w W a kv) : w.heap.size + 3 <= W.heap.size := by
 have := h.2.2.2.lt
 omega
theorem KM5.grown {w W W' : World} {a : Array Value} {kv : Value} {row : Option Nat} (h : KM5 w W a kv) (hg : W.grownBy W' row) (hr : ∀ q, row = some q -> w.heap.size + 3 <= q) : KM5 w W' a kv := by
 obtain ⟨h1, h2, ⟨x, y, z, h3⟩, h4⟩ := h
 exact ⟨h1.grown hg h1.size (fun q hq => by have := hr q hq; omega), (hg.block _ h2.lt (fun e => by have := hr _ e.symm; omega)).trans h2, ⟨x, y, z, h3.grown hg (fun e => by have := hr _ e.symm; omega)⟩, h4.grown hg (fun e => by have := hr _ e.symm; omega)⟩
theorem KM5.laid {w W : World} {a : Array Value} {kv : Value} (h : KM5 w W a kv) (k : Value) : KM5 w (W.setCell ⟨w.heap.size + 1 + 1, 2, none⟩ k) a k := by
 obtain ⟨h1, h2, ⟨x, y, z, h3⟩, h4⟩ := h
 exact ⟨h1.setCell (p := ⟨w.heap.size + 1 + 1, 2, none⟩) (by show w.heap.size <= w.heap.size + 1 + 1; omega) _, h2.other (p := ⟨w.heap.size + 1 + 1, 2, none⟩) _ (by show w.heap.size ≠ w.heap.size + 1 + 1; omega), ⟨x, y, z, h3.other (p := ⟨w.heap.size + 1 + 1, 2, none⟩) (by show w.heap.size + 1 ≠ w.heap.size + 1 + 1; omega) _⟩, h4.set _⟩
theorem KM5.set {w W : World} {a : Array Value} {kv : Value} (h : KM5 w W a kv) (p q r : Value) : KM5 w (((W.setCell ⟨w.heap.size + 1, 0, none⟩ p).setCell ⟨w.heap.size + 1, 1, none⟩ q).setCell ⟨w.heap.size + 1, 2, none⟩ r) a kv := by
 obtain ⟨h1, h2, ⟨x, y, z, h3⟩, h4⟩ := h
 refine ⟨((h1.setCell (p := ⟨w.heap.size + 1, 0, none⟩) (Nat.le_succ _) _).setCell (p := ⟨w.heap.size + 1, 1, none⟩) (Nat.le_succ _) _).setCell (p := ⟨w.heap.size + 1, 2, none⟩) (Nat.le_succ _) _, ?_, ⟨p, q, r, ?_⟩, ?_⟩
 ·have ne : w.heap.size ≠ w.heap.size + 1 := by omega
  exact ((h2.other _ ne).other _ ne).other _ ne
 ·have e := (((show Blk W (w.heap.size + 1) 67 #[x, y, z] from h3).set 0 p).set 1 q).set 2 r
  exact e
 ·have ne : w.heap.size + 1 + 1 ≠ w.heap.size + 1 := by omega
  exact ((h4.other (p := ⟨w.heap.size + 1, 0, none⟩) ne _).other (p := ⟨w.heap.size + 1, 1, none⟩) ne _).other (p := ⟨w.heap.size + 1, 2, none⟩) ne _
theorem KM5.start (w : World) (a : Array Value) (W : World) (hW : W = ((w.alloc (Obj.cells a 44)).alloc (Obj.cells #[Value.int IntKind.i64 0, Value.string ⟨#[]⟩, Value.slice none 0 0] 67)).alloc (Obj.cells #[Value.int IntKind.i64 48, Value.string ⟨#[]⟩, Value.slice none 0 0] 67)) : KM5 w W a (.slice none 0 0) := by
 have e0 : (w.alloc (Obj.cells a 44)).heap.size = w.heap.size + 1 := Array.size_push _
 have e1 : ((w.alloc (Obj.cells a 44)).alloc (Obj.cells #[Value.int IntKind.i64 0, Value.string ⟨#[]⟩, Value.slice none 0 0] 67)).heap.size = w.heap.size + 1 + 1 := by rw [size_alloc, e0]
 refine ⟨by rw [hW]; exact (((Below.refl _ _).alloc (Nat.le_refl _) _).alloc (by rw [e0]; omega) _).alloc (by rw [e1]; omega) _, by rw [hW]; exact ((Blk.new w _ _).alloc _).alloc _, ⟨.int .i64 0, .string ⟨#[]⟩, .slice none 0 0, ?_⟩, ?_⟩
 ·have h := heap_alloc_new (w.alloc (Obj.cells a 44)) (Obj.cells #[Value.int IntKind.i64 0, Value.string ⟨#[]⟩, Value.slice none 0 0] 67)
  rw [e0] at h
  rw [hW]
  exact (heap_alloc_old _ _ (by rw [e1]; omega)).trans h
 ·have h := heap_alloc_new ((w.alloc (Obj.cells a 44)).alloc (Obj.cells #[Value.int IntKind.i64 0, Value.string ⟨#[]⟩, Value.slice none 0 0] 67)) (Obj.cells #[Value.int IntKind.i64 48, Value.string ⟨#[]⟩, Value.slice none 0 0] 67)
  rw [e1] at h
  rw [hW]
  exact h
def KX5 (w W : World) (a : Array Value) (g : Nat) (c : Array Value) : Prop := (∃ kv, KM5 w W a kv) /\ Blk W g 84 c
theorem KX5.below {w W W' : World} {a c : Array Value} {g : Nat} (h : KX5 w W a g c) (hb : Below W.heap.size W W') : KX5 w W' a g c := by
 obtain ⟨⟨kv, h⟩, h2⟩ := h
 exact ⟨⟨kv, h.below hb⟩, h2.below hb h2.lt⟩
theorem l15Item_any (c : Rp) (v : Value) (w : World) (hz : wtR c <= 20000000) (hw : WdRp c) (ha : RpAt w v c) : Calls Try.prog 64 #[v] w fun e w' => ToIt w 4 (bodyR c) e w' := by
 obtain ⟨pv, rfl, h1⟩ := ha
 obtain ⟨pa, pc, hpa⟩ := h1.shape
 obtain ⟨n, hn⟩ := zE (c.ans.length)
 rw [hn] at hpa
 subst hpa
 have HN : Hid ((-9223372036854775808 <= c.nonce /\ c.nonce <= 9223372036854775807) /\ (-9223372036854775808 <= c.time /\ c.time <= 9223372036854775807) /\ (-9223372036854775808 <= c.next /\ c.next <= 9223372036854775807) /\ (-9223372036854775808 <= c.plan /\ c.plan <= 9223372036854775807) /\ (-9223372036854775808 <= c.err /\ c.err <= 9223372036854775807)) := ⟨hw.1 c.nonce (by simp), hw.1 c.time (by simp), hw.1 c.next (by simp), hw.1 c.plan (by simp), hw.1 c.err (by simp)⟩
 have hzz : wtAS c.ans <= 20000000 := wtR_ans hz
 have hnl : n <= 20000000 := by have := wtAS_len c.ans; omega
 have HX : Hid (AtS awKd w (.slice pa n pc) c.ans /\ c.ans.length = n /\ wtAS c.ans <= 20000000 /\ ∀ x ∈ c.ans, WdAw x) := ⟨h1, hn, hzz, hw.2.2.1⟩
 clear h1 hn hw hz hzz
 obtain ⟨ks, hks⟩ : ∃ ks : List (It 3), c.ans.map ansI = ks := ⟨_, rfl⟩
 have HK0 : Hid (c.ans.map ansI = ks /\ ks.length = n) := ⟨hks, by rw [<- hks, List.length_map]; exact HX.out.2.1⟩
 clear hks
 unfold rpV
 go_enter Try.func64, Try.ntmps64
 go_wp2_with fail
 obtain ⟨W3, hW3⟩ : ∃ W, W = ((w.alloc (Obj.cells #[.string c.hash, .int .i64 c.nonce, .int .i64 c.time, .int .i64 c.next, .int .i64 c.plan, .int .i64 c.err, .slice pa n pc, .string c.sig] 44)).alloc (Obj.cells #[Value.int IntKind.i64 0, Value.string ⟨#[]⟩, Value.slice none 0 0] 67)).alloc (Obj.cells #[Value.int IntKind.i64 48, Value.string ⟨#[]⟩, Value.slice none 0 0] 67) := ⟨_, rfl⟩
 rw [<- hW3]
 have H3 : Hid (KM5 w W3 #[.string c.hash, .int .i64 c.nonce, .int .i64 c.time, .int .i64 c.next, .int .i64 c.plan, .int .i64 c.err, .slice pa n pc, .string c.sig] (.slice none 0 0)) := KM5.start w _ W3 hW3
 clear hW3
 go_loopw [4] (fun iv wr => ∃ k : Nat, k <= n /\ iv = .int .i64 k /\ Hid (∃ kv : Value, KM5 w wr #[.string c.hash, .int .i64 c.nonce, .int .i64 c.time, .int .i64 c.next, .int .i64 c.plan, .int .i64 c.err, .slice pa n pc, .string c.sig] (kv) /\ GrowK wr (w.heap.size + 3) 2 kv (ks.take k))) (fun iv _ => n - (intOf iv).toNat)
 case atStart => exact ⟨0, Nat.zero_le _, rfl, _, H3.out, GrowK.nil _ _ _⟩
 case round =>
  obtain ⟨k, hk, rfl, HR⟩ := hrel
  obtain ⟨kv, hr1, hrG⟩ := HR.out
  have HK : Hid (KM5 w wr #[.string c.hash, .int .i64 c.nonce, .int .i64 c.time, .int .i64 c.next, .int .i64 c.plan, .int .i64 c.err, .slice pa n pc, .string c.sig] (kv) /\ GrowK wr (w.heap.size + 3) 2 kv (ks.take k)) := ⟨hr1, hrG⟩
  clear HR hr1 hrG H3
  have y6 : wr.cell? ⟨w.heap.size, 6, none⟩ = some (.slice pa n pc) := HK.out.1.2.1.cell 6
  by_cases hlt : k < n
  ·have hlti : (k : Int) < (n : Int) := by omega
   have hk0 : (0 : Int) <= (k : Int) := by omega
   have hj0 : k < c.ans.length := by rw [HX.out.2.1]; exact hlt
   have hj1 : k < ks.length := by rw [HK0.out.2]; exact hlt
   obtain ⟨b, off, u, hao, hbB, hPu, hus, hcell⟩ := HX.out.1.get hj0
   obtain ⟨p1, q1, e1, r1, hu⟩ := AwAt.shape hPu
   obtain ⟨x, hxx⟩ := zE (c.ans[k])
   have hkx : ks[k] = ansI x := by
    have h := HK0.out.1
    subst h
    rw [List.getElem_map, hxx]
   have HT : Hid (It.tag ks[k] = 48 /\ (⟨(It.text ks[k]).toArray⟩ : ByteArray) = ⟨#[]⟩ /\ It.kids ks[k] = It.kids (ansI x)) := by
    rw [hkx]
    exact ⟨rfl, rfl, rfl⟩
   rw [hxx] at hu hPu
   have hmem : x ∈ c.ans := by rw [<- hxx]; exact List.getElem_mem _
   have hxz : wtAw x <= 20000000 := Nat.le_trans (wtAS_mem hmem) HX.out.2.2.1
   have hxw := HX.out.2.2.2 x hmem
   have hz1 : totT x.path <= 20000000 /\ totT x.lst <= 20000000 := by unfold wtAw at hxz; omega
   have HQ : Hid ((-9223372036854775808 <= x.status /\ x.status <= 9223372036854775807) /\ (-9223372036854775808 <= x.why /\ x.why <= 9223372036854775807)) := ⟨hxw.1 x.status (by simp), hxw.1 x.why (by simp)⟩
   have HW1 : Hid (x.path.length <= 20000000 /\ WdT x.path) := ⟨Nat.le_trans (tot_len _) hz1.1, fun s hs => Nat.le_trans (Nat.le_trans (tot_mem _ s hs) hz1.1) (by decide)⟩
   have HW2 : Hid (x.lst.length <= 20000000 /\ WdT x.lst) := ⟨Nat.le_trans (tot_len _) hz1.2, fun s hs => Nat.le_trans (Nat.le_trans (tot_mem _ s hs) hz1.2) (by decide)⟩
   have hcb := fun i z (hz : u.cells[i]? = some z) => (HK.out.1.1.cell (p := ⟨b, off + k * 4 + i, none⟩) (by show b < w.heap.size; exact hbB)).trans (hcell i z hz)
   subst hao hu
   have hrows := AwAt.rows hPu
   obtain ⟨n1, hn1⟩ := zE (x.path.length)
   obtain ⟨n2, hn2⟩ := zE (x.lst.length)
   have u0 : wr.cell? ⟨b, off + k * 4, none⟩ = some (.int .i64 x.status) := hcb 0 _ rfl
   have u1 : wr.cell? ⟨b, off + k * 4 + 1, none⟩ = some (.int .i64 x.why) := hcb 1 _ rfl
   have u2 : wr.cell? ⟨b, off + k * 4 + 2, none⟩ = some (.slice p1 n1 q1) := by rw [<- hn1]; exact hcb 2 _ rfl
   have u3 : wr.cell? ⟨b, off + k * 4 + 3, none⟩ = some (.slice e1 n2 r1) := by rw [<- hn2]; exact hcb 3 _ rfl
   rw [hn1, hn2] at hrows
   have HL : Hid (TxtAt w (.slice p1 n1 q1) x.path /\ TxtAt w (.slice e1 n2 r1) x.lst) := hrows
   have htl : (ks.take k).length = k := by rw [List.length_take]; omega
   have HG1 : Hid (w.heap.size + 3 <= wr.heap.size) := HK.out.1.size
   clear hcb hcell hPu hus hbB hmem hxz hxw hz1 hrows hkx hxx hn1 hn2
   obtain ⟨V2, hV⟩ : ∃ V, V = wr.alloc (Obj.cells #[.int .i64 x.status, .int .i64 x.why, .slice p1 n1 q1, .slice e1 n2 r1] 84) := ⟨_, rfl⟩
   have HS2 : Hid (KX5 w V2 #[.string c.hash, .int .i64 c.nonce, .int .i64 c.time, .int .i64 c.next, .int .i64 c.plan, .int .i64 c.err, .slice (some ⟨b, off, none⟩) n pc, .string c.sig] wr.heap.size #[.int .i64 x.status, .int .i64 x.why, .slice p1 n1 q1, .slice e1 n2 r1] /\ Below wr.heap.size wr V2) := by
    have hb : Below wr.heap.size wr V2 := by rw [hV]; exact (Below.refl _ _).alloc (Nat.le_refl _) _
    exact ⟨⟨⟨_, HK.out.1.below hb⟩, by rw [hV]; exact Blk.new wr _ _⟩, hb⟩
   go_upto_region 6 with fail
   rw [<- hV]
   clear hV u0 u1 u2 u3 y6
   have HB : Hid (Below wr.heap.size wr V2.drew) := HS2.out.2.trans ((Below.refl _ _).drew)
   have HG : Hid (Blk3 V2.drew (w.heap.size + 1 + 1) (.int .i64 48) (.string ⟨#[]⟩) kv) := (HK.out.1.2.2.2.below HS2.out.2).below ((Below.refl _ _).drew)
   refine wp_region_held_drew (S := fun W => KX5 w W #[.string c.hash, .int .i64 c.nonce, .int .i64 c.time, .int .i64 c.next, .int .i64 c.plan, .int .i64 c.err, .slice (some ⟨b, off, none⟩) n pc, .string c.sig] wr.heap.size #[.int .i64 x.status, .int .i64 x.why, .slice p1 n1 q1, .slice e1 n2 r1]) (by kernel_rfl) (KX5.below HS2.out.1 ((Below.refl _ _).drew)) (fun hHeld => ?_)
   clear HS2
   generalize V2.drew = Wd0 at hHeld HB HG |-
   refine zT 0 19 ?_ rfl (by rfl) ?_ hHeld ?_
   rotate_left
   ·intro W hSw
    go_simp
    try with_reducible rfl
   try simp only [Act.put, zA, zB, zC]
   refine zT 2 21 ?_ rfl (by rfl) ?_ hHeld ?_
   rotate_left
   ·intro W hSw
    go_simp
    try with_reducible rfl
   try simp only [Act.put, zA, zB, zC]
   refine zT 3 22 ?_ rfl (by rfl) ?_ hHeld ?_
   rotate_left
   ·intro W hSw
    have l0 : W.cell? ⟨wr.heap.size, 0, none⟩ = some (.int .i64 x.status) := hSw.2.cell 0
    go_simp
    try with_reducible rfl
   try simp only [Act.put, zA, zB, zC]
   refine zT 5 24 ?_ rfl (by rfl) ?_ hHeld ?_
   rotate_left
   ·intro W hSw
    go_simp
    try with_reducible rfl
   try simp only [Act.put, zA, zB, zC]
   refine zT 6 25 ?_ rfl (by rfl) ?_ hHeld ?_
   rotate_left
   ·intro W hSw
    have l0 : W.cell? ⟨wr.heap.size, 1, none⟩ = some (.int .i64 x.why) := hSw.2.cell 1
    go_simp
    try with_reducible rfl
   try simp only [Act.put, zA, zB, zC]
   refine zT 8 27 ?_ rfl (by rfl) ?_ hHeld ?_
   rotate_left
   ·intro W hSw
    go_simp
    try with_reducible rfl
   try simp only [Act.put, zA, zB, zC]
   refine zT 9 28 ?_ rfl (by rfl) ?_ hHeld ?_
   rotate_left
   ·intro W hSw
    have l0 : W.cell? ⟨wr.heap.size, 2, none⟩ = some (.slice p1 n1 q1) := hSw.2.cell 2
    go_simp
    try with_reducible rfl
   try simp only [Act.put, zA, zB, zC]
   refine zT 11 30 ?_ rfl (by rfl) ?_ hHeld ?_
   rotate_left
   ·intro W hSw
    go_simp
    try with_reducible rfl
   try simp only [Act.put, zA, zB, zC]
   refine zT 12 31 ?_ rfl (by rfl) ?_ hHeld ?_
   rotate_left
   ·intro W hSw
    have l0 : W.cell? ⟨wr.heap.size, 3, none⟩ = some (.slice e1 n2 r1) := hSw.2.cell 3
    go_simp
    try with_reducible rfl
   try simp only [Act.put, zA, zB, zC]
   refine wpAnyH_ready (rs := [1, 4]) (by kernel_rfl) (by simp) ?_
   refine AllReadyH.cons (o := ⟨some 20, _, _, _, _, _⟩) rfl (fun K hK => ?_) ?_
   rotate_left
   ·refine AllReadyH.cons (o := ⟨some 23, _, _, _, _, _⟩) rfl (fun K hK => ?_) AllReadyH.nil
    go_simp
    refine (specIntItem_any x.status _ HQ.out.1).mono ?_
    rintro e v1 ⟨rfl, hv⟩
    have hH := KX5.below hHeld hv
    replace HG := zH (HG.out.below hv)
    replace HB := zH (HB.out.trans ((hv).mono HB.out.size))
    go_wp2_with fail
    refine hK.out _ _ hH (fun hHeld => ?_)
    clear hK K hH hv
    try simp only [Act.put, zA, zB, zC]
    refine wpAnyH_ready (rs := [1, 7]) (by kernel_rfl) (by simp) ?_
    refine AllReadyH.cons (o := ⟨some 20, _, _, _, _, _⟩) rfl (fun K hK => ?_) ?_
    rotate_left
    ·refine AllReadyH.cons (o := ⟨some 26, _, _, _, _, _⟩) rfl (fun K hK => ?_) AllReadyH.nil
     go_simp
     refine (specIntItem_any x.why _ HQ.out.2).mono ?_
     rintro e v2 ⟨rfl, hv⟩
     have hH := KX5.below hHeld hv
     replace HG := zH (HG.out.below hv)
     replace HB := zH (HB.out.trans ((hv).mono HB.out.size))
     go_wp2_with fail
     refine hK.out _ _ hH (fun hHeld => ?_)
     clear hK K hH hv
     try simp only [Act.put, zA, zB, zC]
     refine wpAnyH_ready (rs := [1, 10]) (by kernel_rfl) (by simp) ?_
     refine AllReadyH.cons (o := ⟨some 20, _, _, _, _, _⟩) rfl (fun K hK => ?_) ?_
     rotate_left
     ·refine AllReadyH.cons (o := ⟨some 29, _, _, _, _, _⟩) rfl (fun K hK => ?_) AllReadyH.nil
      go_simp
      have hsz : wr.heap.size <= v2.heap.size := HB.out.size
      refine (bytsI_any 0 x.path _ _ HW1.out.1 HW1.out.2 ((HL.out.1.below HK.out.1.1).below HB.out)).mono ?_
      intro e v3 hto
      obtain ⟨aP, lP, cP, fP, rfl, hoT, hv⟩ := to_lst hto
      clear hto
      have hH := KX5.below hHeld hv
      replace HG := zH (HG.out.below hv)
      replace HB := zH (HB.out.trans ((hv).mono HB.out.size))
      have HP : Hid (OwnK v3 wr.heap.size 1 (.slice aP lP cP) (It.kids (n := 1) (lstJ (x.path.map bytJ))) fP) := OwnK.base hsz hoT
      clear hoT hsz
      go_wp2_with fail
      refine hK.out _ _ hH (fun hHeld => ?_)
      clear hK K hH hv
      try simp only [Act.put, zA, zB, zC]
      refine wpAnyH_ready (rs := [1, 13]) (by kernel_rfl) (by simp) ?_
      refine AllReadyH.cons (o := ⟨some 20, _, _, _, _, _⟩) rfl (fun K hK => ?_) ?_
      rotate_left
      ·refine AllReadyH.cons (o := ⟨some 32, _, _, _, _, _⟩) rfl (fun K hK => ?_) AllReadyH.nil
       go_simp
       have hsz : wr.heap.size <= v3.heap.size := HB.out.size
       refine (bytsI_any 0 x.lst _ _ HW2.out.1 HW2.out.2 ((HL.out.2.below HK.out.1.1).below HB.out)).mono ?_
       intro e v4 hto
       obtain ⟨aE, lE, cE, fE, rfl, hoT, hv⟩ := to_lst hto
       clear hto
       have hH := KX5.below hHeld hv
       have HD : Hid (∀ g ∈ fP, g ∉ fE) := fun g h1 h2 => by have := (OwnK.lt HP.out g h1).2; have := (OwnK.lt hoT g h2).1; omega
       replace HG := zH (HG.out.below hv)
       replace HB := zH (HB.out.trans ((hv).mono HB.out.size))
       replace HP := zH (HP.out.below hv (fun b hm => (OwnK.lt HP.out b hm).2))
       have HE : Hid (OwnK v4 wr.heap.size 1 (.slice aE lE cE) (It.kids (n := 1) (lstJ (x.lst.map bytJ))) fE) := OwnK.base hsz hoT
       clear hoT hsz
       go_wp2_with fail
       refine hK.out _ _ hH (fun hHeld => ?_)
       clear hK K hH hv
       try simp only [Act.put, zA, zB, zC]
       refine wpAnyH_ready (rs := [1, 14]) (by kernel_rfl) (by simp) ?_
       refine AllReadyH.cons (o := ⟨some 20, _, _, _, _, _⟩) rfl (fun K hK => ?_) ?_
       rotate_left
       ·refine AllReadyH.cons (o := ⟨some 33, _, _, _, _, _⟩) rfl (fun K hK => ?_) AllReadyH.nil
        obtain ⟨v5, hW3⟩ : ∃ W, W = v4.alloc (Obj.cells #[.int .i64 2, .string ⟨(intT (numN x.status)).toArray⟩, .slice none 0 0, .int .i64 2, .string ⟨(intT (numN x.why)).toArray⟩, .slice none 0 0, .int .i64 48, .string ⟨#[]⟩, .slice aP lP cP, .int .i64 48, .string ⟨#[]⟩, .slice aE lE cE] 67) := ⟨_, rfl⟩
        have hv : Below v4.heap.size v4 v5 := by rw [hW3]; exact (Below.refl _ _).alloc (Nat.le_refl _) _
        have HF0 : Hid (∃ fp, OwnK v5 wr.heap.size 2 (.slice (some ⟨v4.heap.size, 0, none⟩) 4 4) (It.kids ks[k]) fp) := by rw [HT.out.2.2]; exact ans_row HP.out HE.out HD.out HB.out.size hW3
        clear HP HE HD
        replace HG := zH (HG.out.below hv)
        replace HB := zH (HB.out.trans ((hv).mono HB.out.size))
        have hH := KX5.below hHeld hv
        go_simp
        rw [<- hW3]
        refine hK.out _ _ hH (fun hHeld => ?_)
        clear hK K hH hW3 hv
        try simp only [Act.put, zA, zB, zC]
        obtain ⟨q4, hq4⟩ := zE (v4.heap.size)
        rw [hq4] at HF0 |-
        clear hq4
        obtain ⟨f3, hf3⟩ := HF0.out
        have HF : Hid (OwnK v5 wr.heap.size 2 (.slice (some ⟨q4, 0, none⟩) 4 4) (It.kids ks[k]) f3) := hf3
        clear HF0 hf3
        refine zT 15 34 ?_ rfl (by rfl) ?_ hHeld ?_
        rotate_left
        ·intro W hSw
         go_simp
         try with_reducible rfl
        try simp only [Act.put, zA, zB, zC]
        refine wpAnyH_ready (rs := [1, 16]) (by kernel_rfl) (by simp) ?_
        refine AllReadyH.cons (o := ⟨some 20, _, _, _, _, _⟩) rfl (fun K hK => ?_) ?_
        rotate_left
        ·refine AllReadyH.cons (o := ⟨some 35, _, _, _, _, _⟩) rfl (fun K hK => ?_) AllReadyH.nil
         have hH := KX5.below hHeld ((Below.refl v5.heap.size v5).alloc (Nat.le_refl _) (Obj.cells #[.int .i64 48, .string ⟨#[]⟩, .slice (some ⟨q4, 0, none⟩) 4 4] 67))
         have HGn : Hid (Blk3 (v5.alloc (Obj.cells #[.int .i64 48, .string ⟨#[]⟩, .slice (some ⟨q4, 0, none⟩) 4 4] 67)) (w.heap.size + 1 + 1) (.int .i64 48) (.string ⟨#[]⟩) kv) := HG.out.below ((Below.refl _ _).alloc (Nat.le_refl _) _)
         clear HG
         have HG := HGn
         clear HGn
         go_simp
         refine hK.out _ _ hH (fun hHeld => ?_)
         clear hK K hH
         try simp only [Act.put, zA, zB, zC]
         refine wpAnyH_ready (rs := [1]) (by kernel_rfl) (by simp) ?_
         refine AllReadyH.cons (o := ⟨some 20, _, _, _, _, _⟩) rfl (fun K hK => ?_) AllReadyH.nil
         have lk : (v5.alloc (Obj.cells #[.int .i64 48, .string ⟨#[]⟩, .slice (some ⟨q4, 0, none⟩) 4 4] 67)).cell? ⟨w.heap.size + 1 + 1, 2, none⟩ = some kv := (cell_in HG.out).1.2.2
         go_simp
         refine hK.out _ _ hHeld (fun hHeld => ?_)
         clear hK K lk
         try simp only [Act.put, zA, zB, zC]
         refine wpAnyH_ready (rs := [17]) (by kernel_rfl) (by simp) ?_
         refine AllReadyH.cons (o := ⟨some 36, _, _, _, _, _⟩) rfl (fun K hK => ?_) AllReadyH.nil
         refine step_append_item0 (o := ⟨some 36, _, _, _, _, _⟩) rfl (.tmp 20) (.tmp 35) rfl (w.heap.size + 3) 2 kv (ks.take k) ks[k] 48 ⟨#[]⟩ (.slice (some ⟨q4, 0, none⟩) 4 4) f3 HT.out.1 HT.out.2.1 (by rfl) v5.heap.size (by rfl) rfl HK.out.2 HB.out HF.out HG1.out (by omega) ?_
         intro g cap w6 hG6 hgrow6
         have hm6 := (HK.out.1.below (HB.out.alloc HB.out.size (Obj.cells #[.int .i64 48, .string ⟨#[]⟩, .slice (some ⟨q4, 0, none⟩) 4 4] 67))).grown hgrow6 (fun q hq => (HK.out.2.lt q hq).1)
         have HY : Hid (Blk w6 wr.heap.size 84 #[.int .i64 x.status, .int .i64 x.why, .slice p1 n1 q1, .slice e1 n2 r1]) := (hgrow6.block _ hHeld.2.lt (fun e => by have := (HK.out.2.lt _ e.symm).2; omega)).trans hHeld.2
         have H6 : Hid (KM5 w w6 #[.string c.hash, .int .i64 c.nonce, .int .i64 c.time, .int .i64 c.next, .int .i64 c.plan, .int .i64 c.err, .slice (some ⟨b, off, none⟩) n pc, .string c.sig] kv /\ GrowK w6 (w.heap.size + 3) 2 (.slice (some ⟨g, 0, none⟩) (k + 1) cap) (ks.take (k + 1)) /\ wr.heap.size < w6.heap.size) := by
          have e := List.take_append_getElem hj1
          rw [htl, e] at hG6
          exact ⟨hm6, hG6, HY.out.lt⟩
         try rw [htl]
         clear hG6 hgrow6 hm6 HG HF HB
         refine hK.out _ _ ⟨⟨kv, H6.out.1⟩, HY.out⟩ (fun hHeld => ?_)
         clear hK K
         try simp only [Act.put, zA, zB, zC]
         refine zT 18 37 ?_ rfl (by rfl) ?_ hHeld ?_
         rotate_left
         ·intro W hSw
          go_simp
          try with_reducible rfl
         try simp only [Act.put, zA, zB, zC]
         refine wpAnyH_ready (rs := [19]) (by kernel_rfl) (by simp) ?_
         refine AllReadyH.cons (o := ⟨none, _, _, _, _, _⟩) rfl (fun K hK => ?_) AllReadyH.nil
         obtain ⟨⟨q0, q1, q2⟩, qf⟩ := cell_in H6.out.1.2.2.2
         have HZ9 : Hid (w.heap.size + 1 + 1 ≠ wr.heap.size) := by have := HG1.out; show w.heap.size + 1 + 1 ≠ wr.heap.size; omega
         go_simp
         refine hK.out _ _ ⟨⟨_, H6.out.1.laid _⟩, HY.out.other (p := ⟨w.heap.size + 1 + 1, 2, none⟩) _ (Ne.symm HZ9.out)⟩ (fun hHeld => ?_)
         clear hK K hHeld q0 q1 q2 qf
         try simp only [Act.put, zA, zB, zC]
         refine wpAnyH_done (by kernel_rfl) ?_ _
         go_wp2_with fail
         refine ⟨⟨k + 1, by omega, by go_num, .slice (some ⟨g, 0, none⟩) (k + 1) cap, H6.out.1.laid _, ?_⟩, by simp [intOf]; omega⟩
         exact H6.out.2.1.out fun b hb => heap_setCell_other _ _ _ _ (by show b ≠ w.heap.size + 1 + 1; omega)
        have lk : v5.cell? ⟨w.heap.size + 1 + 1, 2, none⟩ = some kv := (cell_in HG.out).1.2.2
        go_simp
        refine hK.out _ _ hHeld (fun hHeld => ?_)
        clear hK K lk
        try simp only [Act.put, zA, zB, zC]
        refine wpAnyH_ready (rs := [16]) (by kernel_rfl) (by simp) ?_
        refine AllReadyH.cons (o := ⟨some 35, _, _, _, _, _⟩) rfl (fun K hK => ?_) AllReadyH.nil
        have hH := KX5.below hHeld ((Below.refl v5.heap.size v5).alloc (Nat.le_refl _) (Obj.cells #[.int .i64 48, .string ⟨#[]⟩, .slice (some ⟨q4, 0, none⟩) 4 4] 67))
        have HGn : Hid (Blk3 (v5.alloc (Obj.cells #[.int .i64 48, .string ⟨#[]⟩, .slice (some ⟨q4, 0, none⟩) 4 4] 67)) (w.heap.size + 1 + 1) (.int .i64 48) (.string ⟨#[]⟩) kv) := HG.out.below ((Below.refl _ _).alloc (Nat.le_refl _) _)
        clear HG
        have HG := HGn
        clear HGn
        go_simp
        refine hK.out _ _ hH (fun hHeld => ?_)
        clear hK K hH
        try simp only [Act.put, zA, zB, zC]
        refine wpAnyH_ready (rs := [17]) (by kernel_rfl) (by simp) ?_
        refine AllReadyH.cons (o := ⟨some 36, _, _, _, _, _⟩) rfl (fun K hK => ?_) AllReadyH.nil
        refine step_append_item0 (o := ⟨some 36, _, _, _, _, _⟩) rfl (.tmp 20) (.tmp 35) rfl (w.heap.size + 3) 2 kv (ks.take k) ks[k] 48 ⟨#[]⟩ (.slice (some ⟨q4, 0, none⟩) 4 4) f3 HT.out.1 HT.out.2.1 (by rfl) v5.heap.size (by rfl) rfl HK.out.2 HB.out HF.out HG1.out (by omega) ?_
        intro g cap w6 hG6 hgrow6
        have hm6 := (HK.out.1.below (HB.out.alloc HB.out.size (Obj.cells #[.int .i64 48, .string ⟨#[]⟩, .slice (some ⟨q4, 0, none⟩) 4 4] 67))).grown hgrow6 (fun q hq => (HK.out.2.lt q hq).1)
        have HY : Hid (Blk w6 wr.heap.size 84 #[.int .i64 x.status, .int .i64 x.why, .slice p1 n1 q1, .slice e1 n2 r1]) := (hgrow6.block _ hHeld.2.lt (fun e => by have := (HK.out.2.lt _ e.symm).2; omega)).trans hHeld.2
        have H6 : Hid (KM5 w w6 #[.string c.hash, .int .i64 c.nonce, .int .i64 c.time, .int .i64 c.next, .int .i64 c.plan, .int .i64 c.err, .slice (some ⟨b, off, none⟩) n pc, .string c.sig] kv /\ GrowK w6 (w.heap.size + 3) 2 (.slice (some ⟨g, 0, none⟩) (k + 1) cap) (ks.take (k + 1)) /\ wr.heap.size < w6.heap.size) := by
         have e := List.take_append_getElem hj1
         rw [htl, e] at hG6
         exact ⟨hm6, hG6, HY.out.lt⟩
        try rw [htl]
        clear hG6 hgrow6 hm6 HG HF HB
        refine hK.out _ _ ⟨⟨kv, H6.out.1⟩, HY.out⟩ (fun hHeld => ?_)
        clear hK K
        try simp only [Act.put, zA, zB, zC]
        refine zT 18 37 ?_ rfl (by rfl) ?_ hHeld ?_
        rotate_left
        ·intro W hSw
         go_simp
         try with_reducible rfl
        try simp only [Act.put, zA, zB, zC]
        refine wpAnyH_ready (rs := [19]) (by kernel_rfl) (by simp) ?_
        refine AllReadyH.cons (o := ⟨none, _, _, _, _, _⟩) rfl (fun K hK => ?_) AllReadyH.nil
        obtain ⟨⟨q0, q1, q2⟩, qf⟩ := cell_in H6.out.1.2.2.2
        have HZ9 : Hid (w.heap.size + 1 + 1 ≠ wr.heap.size) := by have := HG1.out; show w.heap.size + 1 + 1 ≠ wr.heap.size; omega
        go_simp
        refine hK.out _ _ ⟨⟨_, H6.out.1.laid _⟩, HY.out.other (p := ⟨w.heap.size + 1 + 1, 2, none⟩) _ (Ne.symm HZ9.out)⟩ (fun hHeld => ?_)
        clear hK K hHeld q0 q1 q2 qf
        try simp only [Act.put, zA, zB, zC]
        refine wpAnyH_done (by kernel_rfl) ?_ _
        go_wp2_with fail
        refine ⟨⟨k + 1, by omega, by go_num, .slice (some ⟨g, 0, none⟩) (k + 1) cap, H6.out.1.laid _, ?_⟩, by simp [intOf]; omega⟩
        exact H6.out.2.1.out fun b hb => heap_setCell_other _ _ _ _ (by show b ≠ w.heap.size + 1 + 1; omega)
       have lk : v4.cell? ⟨w.heap.size + 1 + 1, 2, none⟩ = some kv := (cell_in HG.out).1.2.2
       go_simp
       refine hK.out _ _ hHeld (fun hHeld => ?_)
       clear hK K lk
       try simp only [Act.put, zA, zB, zC]
       refine wpAnyH_ready (rs := [14]) (by kernel_rfl) (by simp) ?_
       refine AllReadyH.cons (o := ⟨some 33, _, _, _, _, _⟩) rfl (fun K hK => ?_) AllReadyH.nil
       obtain ⟨v8, hW3⟩ : ∃ W, W = v4.alloc (Obj.cells #[.int .i64 2, .string ⟨(intT (numN x.status)).toArray⟩, .slice none 0 0, .int .i64 2, .string ⟨(intT (numN x.why)).toArray⟩, .slice none 0 0, .int .i64 48, .string ⟨#[]⟩, .slice aP lP cP, .int .i64 48, .string ⟨#[]⟩, .slice aE lE cE] 67) := ⟨_, rfl⟩
       have hv : Below v4.heap.size v4 v8 := by rw [hW3]; exact (Below.refl _ _).alloc (Nat.le_refl _) _
       have HF0 : Hid (∃ fp, OwnK v8 wr.heap.size 2 (.slice (some ⟨v4.heap.size, 0, none⟩) 4 4) (It.kids ks[k]) fp) := by rw [HT.out.2.2]; exact ans_row HP.out HE.out HD.out HB.out.size hW3
       clear HP HE HD
       replace HG := zH (HG.out.below hv)
       replace HB := zH (HB.out.trans ((hv).mono HB.out.size))
       have hH := KX5.below hHeld hv
       go_simp
       rw [<- hW3]
       refine hK.out _ _ hH (fun hHeld => ?_)
       clear hK K hH hW3 hv
       try simp only [Act.put, zA, zB, zC]
       obtain ⟨q4, hq4⟩ := zE (v4.heap.size)
       rw [hq4] at HF0 |-
       clear hq4
       obtain ⟨f3, hf3⟩ := HF0.out
       have HF : Hid (OwnK v8 wr.heap.size 2 (.slice (some ⟨q4, 0, none⟩) 4 4) (It.kids ks[k]) f3) := hf3
       clear HF0 hf3
       refine zT 15 34 ?_ rfl (by rfl) ?_ hHeld ?_
       rotate_left
       ·intro W hSw
        go_simp
        try with_reducible rfl
       try simp only [Act.put, zA, zB, zC]
       refine wpAnyH_ready (rs := [16]) (by kernel_rfl) (by simp) ?_
       refine AllReadyH.cons (o := ⟨some 35, _, _, _, _, _⟩) rfl (fun K hK => ?_) AllReadyH.nil
       have hH := KX5.below hHeld ((Below.refl v8.heap.size v8).alloc (Nat.le_refl _) (Obj.cells #[.int .i64 48, .string ⟨#[]⟩, .slice (some ⟨q4, 0, none⟩) 4 4] 67))
       have HGn : Hid (Blk3 (v8.alloc (Obj.cells #[.int .i64 48, .string ⟨#[]⟩, .slice (some ⟨q4, 0, none⟩) 4 4] 67)) (w.heap.size + 1 + 1) (.int .i64 48) (.string ⟨#[]⟩) kv) := HG.out.below ((Below.refl _ _).alloc (Nat.le_refl _) _)
       clear HG
       have HG := HGn
       clear HGn
       go_simp
       refine hK.out _ _ hH (fun hHeld => ?_)
       clear hK K hH
       try simp only [Act.put, zA, zB, zC]
       refine wpAnyH_ready (rs := [17]) (by kernel_rfl) (by simp) ?_
       refine AllReadyH.cons (o := ⟨some 36, _, _, _, _, _⟩) rfl (fun K hK => ?_) AllReadyH.nil
       refine step_append_item0 (o := ⟨some 36, _, _, _, _, _⟩) rfl (.tmp 20) (.tmp 35) rfl (w.heap.size + 3) 2 kv (ks.take k) ks[k] 48 ⟨#[]⟩ (.slice (some ⟨q4, 0, none⟩) 4 4) f3 HT.out.1 HT.out.2.1 (by rfl) v8.heap.size (by rfl) rfl HK.out.2 HB.out HF.out HG1.out (by omega) ?_
       intro g cap w6 hG6 hgrow6
       have hm6 := (HK.out.1.below (HB.out.alloc HB.out.size (Obj.cells #[.int .i64 48, .string ⟨#[]⟩, .slice (some ⟨q4, 0, none⟩) 4 4] 67))).grown hgrow6 (fun q hq => (HK.out.2.lt q hq).1)
       have HY : Hid (Blk w6 wr.heap.size 84 #[.int .i64 x.status, .int .i64 x.why, .slice p1 n1 q1, .slice e1 n2 r1]) := (hgrow6.block _ hHeld.2.lt (fun e => by have := (HK.out.2.lt _ e.symm).2; omega)).trans hHeld.2
       have H6 : Hid (KM5 w w6 #[.string c.hash, .int .i64 c.nonce, .int .i64 c.time, .int .i64 c.next, .int .i64 c.plan, .int .i64 c.err, .slice (some ⟨b, off, none⟩) n pc, .string c.sig] kv /\ GrowK w6 (w.heap.size + 3) 2 (.slice (some ⟨g, 0, none⟩) (k + 1) cap) (ks.take (k + 1)) /\ wr.heap.size < w6.heap.size) := by
        have e := List.take_append_getElem hj1
        rw [htl, e] at hG6
        exact ⟨hm6, hG6, HY.out.lt⟩
       try rw [htl]
       clear hG6 hgrow6 hm6 HG HF HB
       refine hK.out _ _ ⟨⟨kv, H6.out.1⟩, HY.out⟩ (fun hHeld => ?_)
       clear hK K
       try simp only [Act.put, zA, zB, zC]
       refine zT 18 37 ?_ rfl (by rfl) ?_ hHeld ?_
       rotate_left
       ·intro W hSw
        go_simp
        try with_reducible rfl
       try simp only [Act.put, zA, zB, zC]
       refine wpAnyH_ready (rs := [19]) (by kernel_rfl) (by simp) ?_
       refine AllReadyH.cons (o := ⟨none, _, _, _, _, _⟩) rfl (fun K hK => ?_) AllReadyH.nil
       obtain ⟨⟨q0, q1, q2⟩, qf⟩ := cell_in H6.out.1.2.2.2
       have HZ9 : Hid (w.heap.size + 1 + 1 ≠ wr.heap.size) := by have := HG1.out; show w.heap.size + 1 + 1 ≠ wr.heap.size; omega
       go_simp
       refine hK.out _ _ ⟨⟨_, H6.out.1.laid _⟩, HY.out.other (p := ⟨w.heap.size + 1 + 1, 2, none⟩) _ (Ne.symm HZ9.out)⟩ (fun hHeld => ?_)
       clear hK K hHeld q0 q1 q2 qf
       try simp only [Act.put, zA, zB, zC]
       refine wpAnyH_done (by kernel_rfl) ?_ _
       go_wp2_with fail
       refine ⟨⟨k + 1, by omega, by go_num, .slice (some ⟨g, 0, none⟩) (k + 1) cap, H6.out.1.laid _, ?_⟩, by simp [intOf]; omega⟩
       exact H6.out.2.1.out fun b hb => heap_setCell_other _ _ _ _ (by show b ≠ w.heap.size + 1 + 1; omega)
      have lk : v3.cell? ⟨w.heap.size + 1 + 1, 2, none⟩ = some kv := (cell_in HG.out).1.2.2
      go_simp
      refine hK.out _ _ hHeld (fun hHeld => ?_)
      clear hK K lk
      try simp only [Act.put, zA, zB, zC]
      refine wpAnyH_ready (rs := [13]) (by kernel_rfl) (by simp) ?_
      refine AllReadyH.cons (o := ⟨some 32, _, _, _, _, _⟩) rfl (fun K hK => ?_) AllReadyH.nil
      go_simp
      have hsz : wr.heap.size <= v3.heap.size := HB.out.size
      refine (bytsI_any 0 x.lst _ _ HW2.out.1 HW2.out.2 ((HL.out.2.below HK.out.1.1).below HB.out)).mono ?_
      intro e v10 hto
      obtain ⟨aE, lE, cE, fE, rfl, hoT, hv⟩ := to_lst hto
      clear hto
      have hH := KX5.below hHeld hv
      have HD : Hid (∀ g ∈ fP, g ∉ fE) := fun g h1 h2 => by have := (OwnK.lt HP.out g h1).2; have := (OwnK.lt hoT g h2).1; omega
      replace HG := zH (HG.out.below hv)
      replace HB := zH (HB.out.trans ((hv).mono HB.out.size))
      replace HP := zH (HP.out.below hv (fun b hm => (OwnK.lt HP.out b hm).2))
      have HE : Hid (OwnK v10 wr.heap.size 1 (.slice aE lE cE) (It.kids (n := 1) (lstJ (x.lst.map bytJ))) fE) := OwnK.base hsz hoT
      clear hoT hsz
      go_wp2_with fail
      refine hK.out _ _ hH (fun hHeld => ?_)
      clear hK K hH hv
      try simp only [Act.put, zA, zB, zC]
      refine wpAnyH_ready (rs := [14]) (by kernel_rfl) (by simp) ?_
      refine AllReadyH.cons (o := ⟨some 33, _, _, _, _, _⟩) rfl (fun K hK => ?_) AllReadyH.nil
      obtain ⟨v11, hW3⟩ : ∃ W, W = v10.alloc (Obj.cells #[.int .i64 2, .string ⟨(intT (numN x.status)).toArray⟩, .slice none 0 0, .int .i64 2, .string ⟨(intT (numN x.why)).toArray⟩, .slice none 0 0, .int .i64 48, .string ⟨#[]⟩, .slice aP lP cP, .int .i64 48, .string ⟨#[]⟩, .slice aE lE cE] 67) := ⟨_, rfl⟩
      have hv : Below v10.heap.size v10 v11 := by rw [hW3]; exact (Below.refl _ _).alloc (Nat.le_refl _) _
      have HF0 : Hid (∃ fp, OwnK v11 wr.heap.size 2 (.slice (some ⟨v10.heap.size, 0, none⟩) 4 4) (It.kids ks[k]) fp) := by rw [HT.out.2.2]; exact ans_row HP.out HE.out HD.out HB.out.size hW3
      clear HP HE HD
      replace HG := zH (HG.out.below hv)
      replace HB := zH (HB.out.trans ((hv).mono HB.out.size))
      have hH := KX5.below hHeld hv
      go_simp
      rw [<- hW3]
      refine hK.out _ _ hH (fun hHeld => ?_)
      clear hK K hH hW3 hv
      try simp only [Act.put, zA, zB, zC]
      obtain ⟨q4, hq4⟩ := zE (v10.heap.size)
      rw [hq4] at HF0 |-
      clear hq4
      obtain ⟨f3, hf3⟩ := HF0.out
      have HF : Hid (OwnK v11 wr.heap.size 2 (.slice (some ⟨q4, 0, none⟩) 4 4) (It.kids ks[k]) f3) := hf3
      clear HF0 hf3
      refine zT 15 34 ?_ rfl (by rfl) ?_ hHeld ?_
      rotate_left
      ·intro W hSw
       go_simp
       try with_reducible rfl
      try simp only [Act.put, zA, zB, zC]
      refine wpAnyH_ready (rs := [16]) (by kernel_rfl) (by simp) ?_
      refine AllReadyH.cons (o := ⟨some 35, _, _, _, _, _⟩) rfl (fun K hK => ?_) AllReadyH.nil
      have hH := KX5.below hHeld ((Below.refl v11.heap.size v11).alloc (Nat.le_refl _) (Obj.cells #[.int .i64 48, .string ⟨#[]⟩, .slice (some ⟨q4, 0, none⟩) 4 4] 67))
      have HGn : Hid (Blk3 (v11.alloc (Obj.cells #[.int .i64 48, .string ⟨#[]⟩, .slice (some ⟨q4, 0, none⟩) 4 4] 67)) (w.heap.size + 1 + 1) (.int .i64 48) (.string ⟨#[]⟩) kv) := HG.out.below ((Below.refl _ _).alloc (Nat.le_refl _) _)
      clear HG
      have HG := HGn
      clear HGn
      go_simp
      refine hK.out _ _ hH (fun hHeld => ?_)
      clear hK K hH
      try simp only [Act.put, zA, zB, zC]
      refine wpAnyH_ready (rs := [17]) (by kernel_rfl) (by simp) ?_
      refine AllReadyH.cons (o := ⟨some 36, _, _, _, _, _⟩) rfl (fun K hK => ?_) AllReadyH.nil
      refine step_append_item0 (o := ⟨some 36, _, _, _, _, _⟩) rfl (.tmp 20) (.tmp 35) rfl (w.heap.size + 3) 2 kv (ks.take k) ks[k] 48 ⟨#[]⟩ (.slice (some ⟨q4, 0, none⟩) 4 4) f3 HT.out.1 HT.out.2.1 (by rfl) v11.heap.size (by rfl) rfl HK.out.2 HB.out HF.out HG1.out (by omega) ?_
      intro g cap w6 hG6 hgrow6
      have hm6 := (HK.out.1.below (HB.out.alloc HB.out.size (Obj.cells #[.int .i64 48, .string ⟨#[]⟩, .slice (some ⟨q4, 0, none⟩) 4 4] 67))).grown hgrow6 (fun q hq => (HK.out.2.lt q hq).1)
      have HY : Hid (Blk w6 wr.heap.size 84 #[.int .i64 x.status, .int .i64 x.why, .slice p1 n1 q1, .slice e1 n2 r1]) := (hgrow6.block _ hHeld.2.lt (fun e => by have := (HK.out.2.lt _ e.symm).2; omega)).trans hHeld.2
      have H6 : Hid (KM5 w w6 #[.string c.hash, .int .i64 c.nonce, .int .i64 c.time, .int .i64 c.next, .int .i64 c.plan, .int .i64 c.err, .slice (some ⟨b, off, none⟩) n pc, .string c.sig] kv /\ GrowK w6 (w.heap.size + 3) 2 (.slice (some ⟨g, 0, none⟩) (k + 1) cap) (ks.take (k + 1)) /\ wr.heap.size < w6.heap.size) := by
       have e := List.take_append_getElem hj1
       rw [htl, e] at hG6
       exact ⟨hm6, hG6, HY.out.lt⟩
      try rw [htl]
      clear hG6 hgrow6 hm6 HG HF HB
      refine hK.out _ _ ⟨⟨kv, H6.out.1⟩, HY.out⟩ (fun hHeld => ?_)
      clear hK K
      try simp only [Act.put, zA, zB, zC]
      refine zT 18 37 ?_ rfl (by rfl) ?_ hHeld ?_
      rotate_left
      ·intro W hSw
       go_simp
       try with_reducible rfl
      try simp only [Act.put, zA, zB, zC]
      refine wpAnyH_ready (rs := [19]) (by kernel_rfl) (by simp) ?_
      refine AllReadyH.cons (o := ⟨none, _, _, _, _, _⟩) rfl (fun K hK => ?_) AllReadyH.nil
      obtain ⟨⟨q0, q1, q2⟩, qf⟩ := cell_in H6.out.1.2.2.2
      have HZ9 : Hid (w.heap.size + 1 + 1 ≠ wr.heap.size) := by have := HG1.out; show w.heap.size + 1 + 1 ≠ wr.heap.size; omega
      go_simp
      refine hK.out _ _ ⟨⟨_, H6.out.1.laid _⟩, HY.out.other (p := ⟨w.heap.size + 1 + 1, 2, none⟩) _ (Ne.symm HZ9.out)⟩ (fun hHeld => ?_)
      clear hK K hHeld q0 q1 q2 qf
      try simp only [Act.put, zA, zB, zC]
      refine wpAnyH_done (by kernel_rfl) ?_ _
      go_wp2_with fail
      refine ⟨⟨k + 1, by omega, by go_num, .slice (some ⟨g, 0, none⟩) (k + 1) cap, H6.out.1.laid _, ?_⟩, by simp [intOf]; omega⟩
      exact H6.out.2.1.out fun b hb => heap_setCell_other _ _ _ _ (by show b ≠ w.heap.size + 1 + 1; omega)
     have lk : v2.cell? ⟨w.heap.size + 1 + 1, 2, none⟩ = some kv := (cell_in HG.out).1.2.2
     go_simp
     refine hK.out _ _ hHeld (fun hHeld => ?_)
     clear hK K lk
     try simp only [Act.put, zA, zB, zC]
     refine wpAnyH_ready (rs := [10]) (by kernel_rfl) (by simp) ?_
     refine AllReadyH.cons (o := ⟨some 29, _, _, _, _, _⟩) rfl (fun K hK => ?_) AllReadyH.nil
     go_simp
     have hsz : wr.heap.size <= v2.heap.size := HB.out.size
     refine (bytsI_any 0 x.path _ _ HW1.out.1 HW1.out.2 ((HL.out.1.below HK.out.1.1).below HB.out)).mono ?_
     intro e v13 hto
     obtain ⟨aP, lP, cP, fP, rfl, hoT, hv⟩ := to_lst hto
     clear hto
     have hH := KX5.below hHeld hv
     replace HG := zH (HG.out.below hv)
     replace HB := zH (HB.out.trans ((hv).mono HB.out.size))
     have HP : Hid (OwnK v13 wr.heap.size 1 (.slice aP lP cP) (It.kids (n := 1) (lstJ (x.path.map bytJ))) fP) := OwnK.base hsz hoT
     clear hoT hsz
     go_wp2_with fail
     refine hK.out _ _ hH (fun hHeld => ?_)
     clear hK K hH hv
     try simp only [Act.put, zA, zB, zC]
     refine wpAnyH_ready (rs := [13]) (by kernel_rfl) (by simp) ?_
     refine AllReadyH.cons (o := ⟨some 32, _, _, _, _, _⟩) rfl (fun K hK => ?_) AllReadyH.nil
     go_simp
     have hsz : wr.heap.size <= v13.heap.size := HB.out.size
     refine (bytsI_any 0 x.lst _ _ HW2.out.1 HW2.out.2 ((HL.out.2.below HK.out.1.1).below HB.out)).mono ?_
     intro e v14 hto
     obtain ⟨aE, lE, cE, fE, rfl, hoT, hv⟩ := to_lst hto
     clear hto
     have hH := KX5.below hHeld hv
     have HD : Hid (∀ g ∈ fP, g ∉ fE) := fun g h1 h2 => by have := (OwnK.lt HP.out g h1).2; have := (OwnK.lt hoT g h2).1; omega
     replace HG := zH (HG.out.below hv)
     replace HB := zH (HB.out.trans ((hv).mono HB.out.size))
     replace HP := zH (HP.out.below hv (fun b hm => (OwnK.lt HP.out b hm).2))
     have HE : Hid (OwnK v14 wr.heap.size 1 (.slice aE lE cE) (It.kids (n := 1) (lstJ (x.lst.map bytJ))) fE) := OwnK.base hsz hoT
     clear hoT hsz
     go_wp2_with fail
     refine hK.out _ _ hH (fun hHeld => ?_)
     clear hK K hH hv
     try simp only [Act.put, zA, zB, zC]
     refine wpAnyH_ready (rs := [14]) (by kernel_rfl) (by simp) ?_
     refine AllReadyH.cons (o := ⟨some 33, _, _, _, _, _⟩) rfl (fun K hK => ?_) AllReadyH.nil
     obtain ⟨v15, hW3⟩ : ∃ W, W = v14.alloc (Obj.cells #[.int .i64 2, .string ⟨(intT (numN x.status)).toArray⟩, .slice none 0 0, .int .i64 2, .string ⟨(intT (numN x.why)).toArray⟩, .slice none 0 0, .int .i64 48, .string ⟨#[]⟩, .slice aP lP cP, .int .i64 48, .string ⟨#[]⟩, .slice aE lE cE] 67) := ⟨_, rfl⟩
     have hv : Below v14.heap.size v14 v15 := by rw [hW3]; exact (Below.refl _ _).alloc (Nat.le_refl _) _
     have HF0 : Hid (∃ fp, OwnK v15 wr.heap.size 2 (.slice (some ⟨v14.heap.size, 0, none⟩) 4 4) (It.kids ks[k]) fp) := by rw [HT.out.2.2]; exact ans_row HP.out HE.out HD.out HB.out.size hW3
     clear HP HE HD
     replace HG := zH (HG.out.below hv)
     replace HB := zH (HB.out.trans ((hv).mono HB.out.size))
     have hH := KX5.below hHeld hv
     go_simp
     rw [<- hW3]
     refine hK.out _ _ hH (fun hHeld => ?_)
     clear hK K hH hW3 hv
     try simp only [Act.put, zA, zB, zC]
     obtain ⟨q4, hq4⟩ := zE (v14.heap.size)
     rw [hq4] at HF0 |-
     clear hq4
     obtain ⟨f3, hf3⟩ := HF0.out
     have HF : Hid (OwnK v15 wr.heap.size 2 (.slice (some ⟨q4, 0, none⟩) 4 4) (It.kids ks[k]) f3) := hf3
     clear HF0 hf3
     refine zT 15 34 ?_ rfl (by rfl) ?_ hHeld ?_
     rotate_left
     ·intro W hSw
      go_simp
      try with_reducible rfl
     try simp only [Act.put, zA, zB, zC]
     refine wpAnyH_ready (rs := [16]) (by kernel_rfl) (by simp) ?_
     refine AllReadyH.cons (o := ⟨some 35, _, _, _, _, _⟩) rfl (fun K hK => ?_) AllReadyH.nil
     have hH := KX5.below hHeld ((Below.refl v15.heap.size v15).alloc (Nat.le_refl _) (Obj.cells #[.int .i64 48, .string ⟨#[]⟩, .slice (some ⟨q4, 0, none⟩) 4 4] 67))
     have HGn : Hid (Blk3 (v15.alloc (Obj.cells #[.int .i64 48, .string ⟨#[]⟩, .slice (some ⟨q4, 0, none⟩) 4 4] 67)) (w.heap.size + 1 + 1) (.int .i64 48) (.string ⟨#[]⟩) kv) := HG.out.below ((Below.refl _ _).alloc (Nat.le_refl _) _)
     clear HG
     have HG := HGn
     clear HGn
     go_simp
     refine hK.out _ _ hH (fun hHeld => ?_)
     clear hK K hH
     try simp only [Act.put, zA, zB, zC]
     refine wpAnyH_ready (rs := [17]) (by kernel_rfl) (by simp) ?_
     refine AllReadyH.cons (o := ⟨some 36, _, _, _, _, _⟩) rfl (fun K hK => ?_) AllReadyH.nil
     refine step_append_item0 (o := ⟨some 36, _, _, _, _, _⟩) rfl (.tmp 20) (.tmp 35) rfl (w.heap.size + 3) 2 kv (ks.take k) ks[k] 48 ⟨#[]⟩ (.slice (some ⟨q4, 0, none⟩) 4 4) f3 HT.out.1 HT.out.2.1 (by rfl) v15.heap.size (by rfl) rfl HK.out.2 HB.out HF.out HG1.out (by omega) ?_
     intro g cap w6 hG6 hgrow6
     have hm6 := (HK.out.1.below (HB.out.alloc HB.out.size (Obj.cells #[.int .i64 48, .string ⟨#[]⟩, .slice (some ⟨q4, 0, none⟩) 4 4] 67))).grown hgrow6 (fun q hq => (HK.out.2.lt q hq).1)
     have HY : Hid (Blk w6 wr.heap.size 84 #[.int .i64 x.status, .int .i64 x.why, .slice p1 n1 q1, .slice e1 n2 r1]) := (hgrow6.block _ hHeld.2.lt (fun e => by have := (HK.out.2.lt _ e.symm).2; omega)).trans hHeld.2
     have H6 : Hid (KM5 w w6 #[.string c.hash, .int .i64 c.nonce, .int .i64 c.time, .int .i64 c.next, .int .i64 c.plan, .int .i64 c.err, .slice (some ⟨b, off, none⟩) n pc, .string c.sig] kv /\ GrowK w6 (w.heap.size + 3) 2 (.slice (some ⟨g, 0, none⟩) (k + 1) cap) (ks.take (k + 1)) /\ wr.heap.size < w6.heap.size) := by
      have e := List.take_append_getElem hj1
      rw [htl, e] at hG6
      exact ⟨hm6, hG6, HY.out.lt⟩
     try rw [htl]
     clear hG6 hgrow6 hm6 HG HF HB
     refine hK.out _ _ ⟨⟨kv, H6.out.1⟩, HY.out⟩ (fun hHeld => ?_)
     clear hK K
     try simp only [Act.put, zA, zB, zC]
     refine zT 18 37 ?_ rfl (by rfl) ?_ hHeld ?_
     rotate_left
     ·intro W hSw
      go_simp
      try with_reducible rfl
     try simp only [Act.put, zA, zB, zC]
     refine wpAnyH_ready (rs := [19]) (by kernel_rfl) (by simp) ?_
     refine AllReadyH.cons (o := ⟨none, _, _, _, _, _⟩) rfl (fun K hK => ?_) AllReadyH.nil
     obtain ⟨⟨q0, q1, q2⟩, qf⟩ := cell_in H6.out.1.2.2.2
     have HZ9 : Hid (w.heap.size + 1 + 1 ≠ wr.heap.size) := by have := HG1.out; show w.heap.size + 1 + 1 ≠ wr.heap.size; omega
     go_simp
     refine hK.out _ _ ⟨⟨_, H6.out.1.laid _⟩, HY.out.other (p := ⟨w.heap.size + 1 + 1, 2, none⟩) _ (Ne.symm HZ9.out)⟩ (fun hHeld => ?_)
     clear hK K hHeld q0 q1 q2 qf
     try simp only [Act.put, zA, zB, zC]
     refine wpAnyH_done (by kernel_rfl) ?_ _
     go_wp2_with fail
     refine ⟨⟨k + 1, by omega, by go_num, .slice (some ⟨g, 0, none⟩) (k + 1) cap, H6.out.1.laid _, ?_⟩, by simp [intOf]; omega⟩
     exact H6.out.2.1.out fun b hb => heap_setCell_other _ _ _ _ (by show b ≠ w.heap.size + 1 + 1; omega)
    have lk : v1.cell? ⟨w.heap.size + 1 + 1, 2, none⟩ = some kv := (cell_in HG.out).1.2.2
    go_simp
    refine hK.out _ _ hHeld (fun hHeld => ?_)
    clear hK K lk
    try simp only [Act.put, zA, zB, zC]
    refine wpAnyH_ready (rs := [7]) (by kernel_rfl) (by simp) ?_
    refine AllReadyH.cons (o := ⟨some 26, _, _, _, _, _⟩) rfl (fun K hK => ?_) AllReadyH.nil
    go_simp
    refine (specIntItem_any x.why _ HQ.out.2).mono ?_
    rintro e v17 ⟨rfl, hv⟩
    have hH := KX5.below hHeld hv
    replace HG := zH (HG.out.below hv)
    replace HB := zH (HB.out.trans ((hv).mono HB.out.size))
    go_wp2_with fail
    refine hK.out _ _ hH (fun hHeld => ?_)
    clear hK K hH hv
    try simp only [Act.put, zA, zB, zC]
    refine wpAnyH_ready (rs := [10]) (by kernel_rfl) (by simp) ?_
    refine AllReadyH.cons (o := ⟨some 29, _, _, _, _, _⟩) rfl (fun K hK => ?_) AllReadyH.nil
    go_simp
    have hsz : wr.heap.size <= v17.heap.size := HB.out.size
    refine (bytsI_any 0 x.path _ _ HW1.out.1 HW1.out.2 ((HL.out.1.below HK.out.1.1).below HB.out)).mono ?_
    intro e v18 hto
    obtain ⟨aP, lP, cP, fP, rfl, hoT, hv⟩ := to_lst hto
    clear hto
    have hH := KX5.below hHeld hv
    replace HG := zH (HG.out.below hv)
    replace HB := zH (HB.out.trans ((hv).mono HB.out.size))
    have HP : Hid (OwnK v18 wr.heap.size 1 (.slice aP lP cP) (It.kids (n := 1) (lstJ (x.path.map bytJ))) fP) := OwnK.base hsz hoT
    clear hoT hsz
    go_wp2_with fail
    refine hK.out _ _ hH (fun hHeld => ?_)
    clear hK K hH hv
    try simp only [Act.put, zA, zB, zC]
    refine wpAnyH_ready (rs := [13]) (by kernel_rfl) (by simp) ?_
    refine AllReadyH.cons (o := ⟨some 32, _, _, _, _, _⟩) rfl (fun K hK => ?_) AllReadyH.nil
    go_simp
    have hsz : wr.heap.size <= v18.heap.size := HB.out.size
    refine (bytsI_any 0 x.lst _ _ HW2.out.1 HW2.out.2 ((HL.out.2.below HK.out.1.1).below HB.out)).mono ?_
    intro e v19 hto
    obtain ⟨aE, lE, cE, fE, rfl, hoT, hv⟩ := to_lst hto
    clear hto
    have hH := KX5.below hHeld hv
    have HD : Hid (∀ g ∈ fP, g ∉ fE) := fun g h1 h2 => by have := (OwnK.lt HP.out g h1).2; have := (OwnK.lt hoT g h2).1; omega
    replace HG := zH (HG.out.below hv)
    replace HB := zH (HB.out.trans ((hv).mono HB.out.size))
    replace HP := zH (HP.out.below hv (fun b hm => (OwnK.lt HP.out b hm).2))
    have HE : Hid (OwnK v19 wr.heap.size 1 (.slice aE lE cE) (It.kids (n := 1) (lstJ (x.lst.map bytJ))) fE) := OwnK.base hsz hoT
    clear hoT hsz
    go_wp2_with fail
    refine hK.out _ _ hH (fun hHeld => ?_)
    clear hK K hH hv
    try simp only [Act.put, zA, zB, zC]
    refine wpAnyH_ready (rs := [14]) (by kernel_rfl) (by simp) ?_
    refine AllReadyH.cons (o := ⟨some 33, _, _, _, _, _⟩) rfl (fun K hK => ?_) AllReadyH.nil
    obtain ⟨v20, hW3⟩ : ∃ W, W = v19.alloc (Obj.cells #[.int .i64 2, .string ⟨(intT (numN x.status)).toArray⟩, .slice none 0 0, .int .i64 2, .string ⟨(intT (numN x.why)).toArray⟩, .slice none 0 0, .int .i64 48, .string ⟨#[]⟩, .slice aP lP cP, .int .i64 48, .string ⟨#[]⟩, .slice aE lE cE] 67) := ⟨_, rfl⟩
    have hv : Below v19.heap.size v19 v20 := by rw [hW3]; exact (Below.refl _ _).alloc (Nat.le_refl _) _
    have HF0 : Hid (∃ fp, OwnK v20 wr.heap.size 2 (.slice (some ⟨v19.heap.size, 0, none⟩) 4 4) (It.kids ks[k]) fp) := by rw [HT.out.2.2]; exact ans_row HP.out HE.out HD.out HB.out.size hW3
    clear HP HE HD
    replace HG := zH (HG.out.below hv)
    replace HB := zH (HB.out.trans ((hv).mono HB.out.size))
    have hH := KX5.below hHeld hv
    go_simp
    rw [<- hW3]
    refine hK.out _ _ hH (fun hHeld => ?_)
    clear hK K hH hW3 hv
    try simp only [Act.put, zA, zB, zC]
    obtain ⟨q4, hq4⟩ := zE (v19.heap.size)
    rw [hq4] at HF0 |-
    clear hq4
    obtain ⟨f3, hf3⟩ := HF0.out
    have HF : Hid (OwnK v20 wr.heap.size 2 (.slice (some ⟨q4, 0, none⟩) 4 4) (It.kids ks[k]) f3) := hf3
    clear HF0 hf3
    refine zT 15 34 ?_ rfl (by rfl) ?_ hHeld ?_
    rotate_left
    ·intro W hSw
     go_simp
     try with_reducible rfl
    try simp only [Act.put, zA, zB, zC]
    refine wpAnyH_ready (rs := [16]) (by kernel_rfl) (by simp) ?_
    refine AllReadyH.cons (o := ⟨some 35, _, _, _, _, _⟩) rfl (fun K hK => ?_) AllReadyH.nil
    have hH := KX5.below hHeld ((Below.refl v20.heap.size v20).alloc (Nat.le_refl _) (Obj.cells #[.int .i64 48, .string ⟨#[]⟩, .slice (some ⟨q4, 0, none⟩) 4 4] 67))
    have HGn : Hid (Blk3 (v20.alloc (Obj.cells #[.int .i64 48, .string ⟨#[]⟩, .slice (some ⟨q4, 0, none⟩) 4 4] 67)) (w.heap.size + 1 + 1) (.int .i64 48) (.string ⟨#[]⟩) kv) := HG.out.below ((Below.refl _ _).alloc (Nat.le_refl _) _)
    clear HG
    have HG := HGn
    clear HGn
    go_simp
    refine hK.out _ _ hH (fun hHeld => ?_)
    clear hK K hH
    try simp only [Act.put, zA, zB, zC]
    refine wpAnyH_ready (rs := [17]) (by kernel_rfl) (by simp) ?_
    refine AllReadyH.cons (o := ⟨some 36, _, _, _, _, _⟩) rfl (fun K hK => ?_) AllReadyH.nil
    refine step_append_item0 (o := ⟨some 36, _, _, _, _, _⟩) rfl (.tmp 20) (.tmp 35) rfl (w.heap.size + 3) 2 kv (ks.take k) ks[k] 48 ⟨#[]⟩ (.slice (some ⟨q4, 0, none⟩) 4 4) f3 HT.out.1 HT.out.2.1 (by rfl) v20.heap.size (by rfl) rfl HK.out.2 HB.out HF.out HG1.out (by omega) ?_
    intro g cap w6 hG6 hgrow6
    have hm6 := (HK.out.1.below (HB.out.alloc HB.out.size (Obj.cells #[.int .i64 48, .string ⟨#[]⟩, .slice (some ⟨q4, 0, none⟩) 4 4] 67))).grown hgrow6 (fun q hq => (HK.out.2.lt q hq).1)
    have HY : Hid (Blk w6 wr.heap.size 84 #[.int .i64 x.status, .int .i64 x.why, .slice p1 n1 q1, .slice e1 n2 r1]) := (hgrow6.block _ hHeld.2.lt (fun e => by have := (HK.out.2.lt _ e.symm).2; omega)).trans hHeld.2
    have H6 : Hid (KM5 w w6 #[.string c.hash, .int .i64 c.nonce, .int .i64 c.time, .int .i64 c.next, .int .i64 c.plan, .int .i64 c.err, .slice (some ⟨b, off, none⟩) n pc, .string c.sig] kv /\ GrowK w6 (w.heap.size + 3) 2 (.slice (some ⟨g, 0, none⟩) (k + 1) cap) (ks.take (k + 1)) /\ wr.heap.size < w6.heap.size) := by
     have e := List.take_append_getElem hj1
     rw [htl, e] at hG6
     exact ⟨hm6, hG6, HY.out.lt⟩
    try rw [htl]
    clear hG6 hgrow6 hm6 HG HF HB
    refine hK.out _ _ ⟨⟨kv, H6.out.1⟩, HY.out⟩ (fun hHeld => ?_)
    clear hK K
    try simp only [Act.put, zA, zB, zC]
    refine zT 18 37 ?_ rfl (by rfl) ?_ hHeld ?_
    rotate_left
    ·intro W hSw
     go_simp
     try with_reducible rfl
    try simp only [Act.put, zA, zB, zC]
    refine wpAnyH_ready (rs := [19]) (by kernel_rfl) (by simp) ?_
    refine AllReadyH.cons (o := ⟨none, _, _, _, _, _⟩) rfl (fun K hK => ?_) AllReadyH.nil
    obtain ⟨⟨q0, q1, q2⟩, qf⟩ := cell_in H6.out.1.2.2.2
    have HZ9 : Hid (w.heap.size + 1 + 1 ≠ wr.heap.size) := by have := HG1.out; show w.heap.size + 1 + 1 ≠ wr.heap.size; omega
    go_simp
    refine hK.out _ _ ⟨⟨_, H6.out.1.laid _⟩, HY.out.other (p := ⟨w.heap.size + 1 + 1, 2, none⟩) _ (Ne.symm HZ9.out)⟩ (fun hHeld => ?_)
    clear hK K hHeld q0 q1 q2 qf
    try simp only [Act.put, zA, zB, zC]
    refine wpAnyH_done (by kernel_rfl) ?_ _
    go_wp2_with fail
    refine ⟨⟨k + 1, by omega, by go_num, .slice (some ⟨g, 0, none⟩) (k + 1) cap, H6.out.1.laid _, ?_⟩, by simp [intOf]; omega⟩
    exact H6.out.2.1.out fun b hb => heap_setCell_other _ _ _ _ (by show b ≠ w.heap.size + 1 + 1; omega)
   have lk : Wd0.cell? ⟨w.heap.size + 1 + 1, 2, none⟩ = some kv := (cell_in HG.out).1.2.2
   go_simp
   refine hK.out _ _ hHeld (fun hHeld => ?_)
   clear hK K lk
   try simp only [Act.put, zA, zB, zC]
   refine wpAnyH_ready (rs := [4]) (by kernel_rfl) (by simp) ?_
   refine AllReadyH.cons (o := ⟨some 23, _, _, _, _, _⟩) rfl (fun K hK => ?_) AllReadyH.nil
   go_simp
   refine (specIntItem_any x.status _ HQ.out.1).mono ?_
   rintro e v22 ⟨rfl, hv⟩
   have hH := KX5.below hHeld hv
   replace HG := zH (HG.out.below hv)
   replace HB := zH (HB.out.trans ((hv).mono HB.out.size))
   go_wp2_with fail
   refine hK.out _ _ hH (fun hHeld => ?_)
   clear hK K hH hv
   try simp only [Act.put, zA, zB, zC]
   refine wpAnyH_ready (rs := [7]) (by kernel_rfl) (by simp) ?_
   refine AllReadyH.cons (o := ⟨some 26, _, _, _, _, _⟩) rfl (fun K hK => ?_) AllReadyH.nil
   go_simp
   refine (specIntItem_any x.why _ HQ.out.2).mono ?_
   rintro e v23 ⟨rfl, hv⟩
   have hH := KX5.below hHeld hv
   replace HG := zH (HG.out.below hv)
   replace HB := zH (HB.out.trans ((hv).mono HB.out.size))
   go_wp2_with fail
   refine hK.out _ _ hH (fun hHeld => ?_)
   clear hK K hH hv
   try simp only [Act.put, zA, zB, zC]
   refine wpAnyH_ready (rs := [10]) (by kernel_rfl) (by simp) ?_
   refine AllReadyH.cons (o := ⟨some 29, _, _, _, _, _⟩) rfl (fun K hK => ?_) AllReadyH.nil
   go_simp
   have hsz : wr.heap.size <= v23.heap.size := HB.out.size
   refine (bytsI_any 0 x.path _ _ HW1.out.1 HW1.out.2 ((HL.out.1.below HK.out.1.1).below HB.out)).mono ?_
   intro e v24 hto
   obtain ⟨aP, lP, cP, fP, rfl, hoT, hv⟩ := to_lst hto
   clear hto
   have hH := KX5.below hHeld hv
   replace HG := zH (HG.out.below hv)
   replace HB := zH (HB.out.trans ((hv).mono HB.out.size))
   have HP : Hid (OwnK v24 wr.heap.size 1 (.slice aP lP cP) (It.kids (n := 1) (lstJ (x.path.map bytJ))) fP) := OwnK.base hsz hoT
   clear hoT hsz
   go_wp2_with fail
   refine hK.out _ _ hH (fun hHeld => ?_)
   clear hK K hH hv
   try simp only [Act.put, zA, zB, zC]
   refine wpAnyH_ready (rs := [13]) (by kernel_rfl) (by simp) ?_
   refine AllReadyH.cons (o := ⟨some 32, _, _, _, _, _⟩) rfl (fun K hK => ?_) AllReadyH.nil
   go_simp
   have hsz : wr.heap.size <= v24.heap.size := HB.out.size
   refine (bytsI_any 0 x.lst _ _ HW2.out.1 HW2.out.2 ((HL.out.2.below HK.out.1.1).below HB.out)).mono ?_
   intro e v25 hto
   obtain ⟨aE, lE, cE, fE, rfl, hoT, hv⟩ := to_lst hto
   clear hto
   have hH := KX5.below hHeld hv
   have HD : Hid (∀ g ∈ fP, g ∉ fE) := fun g h1 h2 => by have := (OwnK.lt HP.out g h1).2; have := (OwnK.lt hoT g h2).1; omega
   replace HG := zH (HG.out.below hv)
   replace HB := zH (HB.out.trans ((hv).mono HB.out.size))
   replace HP := zH (HP.out.below hv (fun b hm => (OwnK.lt HP.out b hm).2))
   have HE : Hid (OwnK v25 wr.heap.size 1 (.slice aE lE cE) (It.kids (n := 1) (lstJ (x.lst.map bytJ))) fE) := OwnK.base hsz hoT
   clear hoT hsz
   go_wp2_with fail
   refine hK.out _ _ hH (fun hHeld => ?_)
   clear hK K hH hv
   try simp only [Act.put, zA, zB, zC]
   refine wpAnyH_ready (rs := [14]) (by kernel_rfl) (by simp) ?_
   refine AllReadyH.cons (o := ⟨some 33, _, _, _, _, _⟩) rfl (fun K hK => ?_) AllReadyH.nil
   obtain ⟨v26, hW3⟩ : ∃ W, W = v25.alloc (Obj.cells #[.int .i64 2, .string ⟨(intT (numN x.status)).toArray⟩, .slice none 0 0, .int .i64 2, .string ⟨(intT (numN x.why)).toArray⟩, .slice none 0 0, .int .i64 48, .string ⟨#[]⟩, .slice aP lP cP, .int .i64 48, .string ⟨#[]⟩, .slice aE lE cE] 67) := ⟨_, rfl⟩
   have hv : Below v25.heap.size v25 v26 := by rw [hW3]; exact (Below.refl _ _).alloc (Nat.le_refl _) _
   have HF0 : Hid (∃ fp, OwnK v26 wr.heap.size 2 (.slice (some ⟨v25.heap.size, 0, none⟩) 4 4) (It.kids ks[k]) fp) := by rw [HT.out.2.2]; exact ans_row HP.out HE.out HD.out HB.out.size hW3
   clear HP HE HD
   replace HG := zH (HG.out.below hv)
   replace HB := zH (HB.out.trans ((hv).mono HB.out.size))
   have hH := KX5.below hHeld hv
   go_simp
   rw [<- hW3]
   refine hK.out _ _ hH (fun hHeld => ?_)
   clear hK K hH hW3 hv
   try simp only [Act.put, zA, zB, zC]
   obtain ⟨q4, hq4⟩ := zE (v25.heap.size)
   rw [hq4] at HF0 |-
   clear hq4
   obtain ⟨f3, hf3⟩ := HF0.out
   have HF : Hid (OwnK v26 wr.heap.size 2 (.slice (some ⟨q4, 0, none⟩) 4 4) (It.kids ks[k]) f3) := hf3
   clear HF0 hf3
   refine zT 15 34 ?_ rfl (by rfl) ?_ hHeld ?_
   rotate_left
   ·intro W hSw
    go_simp
    try with_reducible rfl
   try simp only [Act.put, zA, zB, zC]
   refine wpAnyH_ready (rs := [16]) (by kernel_rfl) (by simp) ?_
   refine AllReadyH.cons (o := ⟨some 35, _, _, _, _, _⟩) rfl (fun K hK => ?_) AllReadyH.nil
   have hH := KX5.below hHeld ((Below.refl v26.heap.size v26).alloc (Nat.le_refl _) (Obj.cells #[.int .i64 48, .string ⟨#[]⟩, .slice (some ⟨q4, 0, none⟩) 4 4] 67))
   have HGn : Hid (Blk3 (v26.alloc (Obj.cells #[.int .i64 48, .string ⟨#[]⟩, .slice (some ⟨q4, 0, none⟩) 4 4] 67)) (w.heap.size + 1 + 1) (.int .i64 48) (.string ⟨#[]⟩) kv) := HG.out.below ((Below.refl _ _).alloc (Nat.le_refl _) _)
   clear HG
   have HG := HGn
   clear HGn
   go_simp
   refine hK.out _ _ hH (fun hHeld => ?_)
   clear hK K hH
   try simp only [Act.put, zA, zB, zC]
   refine wpAnyH_ready (rs := [17]) (by kernel_rfl) (by simp) ?_
   refine AllReadyH.cons (o := ⟨some 36, _, _, _, _, _⟩) rfl (fun K hK => ?_) AllReadyH.nil
   refine step_append_item0 (o := ⟨some 36, _, _, _, _, _⟩) rfl (.tmp 20) (.tmp 35) rfl (w.heap.size + 3) 2 kv (ks.take k) ks[k] 48 ⟨#[]⟩ (.slice (some ⟨q4, 0, none⟩) 4 4) f3 HT.out.1 HT.out.2.1 (by rfl) v26.heap.size (by rfl) rfl HK.out.2 HB.out HF.out HG1.out (by omega) ?_
   intro g cap w6 hG6 hgrow6
   have hm6 := (HK.out.1.below (HB.out.alloc HB.out.size (Obj.cells #[.int .i64 48, .string ⟨#[]⟩, .slice (some ⟨q4, 0, none⟩) 4 4] 67))).grown hgrow6 (fun q hq => (HK.out.2.lt q hq).1)
   have HY : Hid (Blk w6 wr.heap.size 84 #[.int .i64 x.status, .int .i64 x.why, .slice p1 n1 q1, .slice e1 n2 r1]) := (hgrow6.block _ hHeld.2.lt (fun e => by have := (HK.out.2.lt _ e.symm).2; omega)).trans hHeld.2
   have H6 : Hid (KM5 w w6 #[.string c.hash, .int .i64 c.nonce, .int .i64 c.time, .int .i64 c.next, .int .i64 c.plan, .int .i64 c.err, .slice (some ⟨b, off, none⟩) n pc, .string c.sig] kv /\ GrowK w6 (w.heap.size + 3) 2 (.slice (some ⟨g, 0, none⟩) (k + 1) cap) (ks.take (k + 1)) /\ wr.heap.size < w6.heap.size) := by
    have e := List.take_append_getElem hj1
    rw [htl, e] at hG6
    exact ⟨hm6, hG6, HY.out.lt⟩
   try rw [htl]
   clear hG6 hgrow6 hm6 HG HF HB
   refine hK.out _ _ ⟨⟨kv, H6.out.1⟩, HY.out⟩ (fun hHeld => ?_)
   clear hK K
   try simp only [Act.put, zA, zB, zC]
   refine zT 18 37 ?_ rfl (by rfl) ?_ hHeld ?_
   rotate_left
   ·intro W hSw
    go_simp
    try with_reducible rfl
   try simp only [Act.put, zA, zB, zC]
   refine wpAnyH_ready (rs := [19]) (by kernel_rfl) (by simp) ?_
   refine AllReadyH.cons (o := ⟨none, _, _, _, _, _⟩) rfl (fun K hK => ?_) AllReadyH.nil
   obtain ⟨⟨q0, q1, q2⟩, qf⟩ := cell_in H6.out.1.2.2.2
   have HZ9 : Hid (w.heap.size + 1 + 1 ≠ wr.heap.size) := by have := HG1.out; show w.heap.size + 1 + 1 ≠ wr.heap.size; omega
   go_simp
   refine hK.out _ _ ⟨⟨_, H6.out.1.laid _⟩, HY.out.other (p := ⟨w.heap.size + 1 + 1, 2, none⟩) _ (Ne.symm HZ9.out)⟩ (fun hHeld => ?_)
   clear hK K hHeld q0 q1 q2 qf
   try simp only [Act.put, zA, zB, zC]
   refine wpAnyH_done (by kernel_rfl) ?_ _
   go_wp2_with fail
   refine ⟨⟨k + 1, by omega, by go_num, .slice (some ⟨g, 0, none⟩) (k + 1) cap, H6.out.1.laid _, ?_⟩, by simp [intOf]; omega⟩
   exact H6.out.2.1.out fun b hb => heap_setCell_other _ _ _ _ (by show b ≠ w.heap.size + 1 + 1; omega)
  ·have hlti : ¬ (k : Int) < (n : Int) := by omega
   have HE : Hid (∃ fp, OwnK wr (w.heap.size + 3) 3 kv (c.ans.map ansI) fp) := by
    have h := HK.out.2
    rw [List.take_of_length_le (by have := HK0.out.2; omega), <- HK0.out.1] at h
    exact h.own
   obtain ⟨axe, cape, hkv⟩ := HK.out.2.shape
   obtain ⟨le, hle⟩ := zE ((ks.take k).length)
   rw [hle] at hkv
   subst hkv
   clear hle
   have HM : Hid (KM5 w wr #[.string c.hash, .int .i64 c.nonce, .int .i64 c.time, .int .i64 c.next, .int .i64 c.plan, .int .i64 c.err, .slice pa n pc, .string c.sig] (.slice axe le cape)) := HK.out.1
   clear HK
   go_wp2_with fail
   clear y6
   refine wp_region_held_drew (S := fun W => KM5 w W #[.string c.hash, .int .i64 c.nonce, .int .i64 c.time, .int .i64 c.next, .int .i64 c.plan, .int .i64 c.err, .slice pa n pc, .string c.sig] (.slice axe le cape)) (by kernel_rfl) (KM5.below HM.out ((Below.refl _ _).drew)) (fun hHeld => ?_)
   have HE0 : Hid (∃ fp, OwnK wr.drew (w.heap.size + 3) 3 (.slice axe le cape) (c.ans.map ansI) fp) := by
    obtain ⟨fp, h⟩ := HE.out
    exact ⟨fp, h.below (Below.refl _ _).drew (fun b hb => (OwnK.lt h b hb).2)⟩
   clear HM HE
   generalize wr.drew = Wd0 at hHeld HE0 |-
   refine zT 0 38 ?_ rfl (by rfl) ?_ hHeld ?_
   rotate_left
   ·intro W hSw
    go_simp
    try with_reducible rfl
   try simp only [Act.put, zA, zB, zC]
   refine zT 1 39 ?_ rfl (by rfl) ?_ hHeld ?_
   rotate_left
   ·intro W hSw
    have l0 : W.cell? ⟨w.heap.size, 0, none⟩ = some (.string c.hash) := hSw.2.1.cell 0
    go_simp
    try with_reducible rfl
   try simp only [Act.put, zA, zB, zC]
   refine zT 3 41 ?_ rfl (by rfl) ?_ hHeld ?_
   rotate_left
   ·intro W hSw
    go_simp
    try with_reducible rfl
   try simp only [Act.put, zA, zB, zC]
   refine zT 4 42 ?_ rfl (by rfl) ?_ hHeld ?_
   rotate_left
   ·intro W hSw
    have l0 : W.cell? ⟨w.heap.size, 1, none⟩ = some (.int .i64 c.nonce) := hSw.2.1.cell 1
    go_simp
    try with_reducible rfl
   try simp only [Act.put, zA, zB, zC]
   refine zT 6 44 ?_ rfl (by rfl) ?_ hHeld ?_
   rotate_left
   ·intro W hSw
    go_simp
    try with_reducible rfl
   try simp only [Act.put, zA, zB, zC]
   refine zT 7 45 ?_ rfl (by rfl) ?_ hHeld ?_
   rotate_left
   ·intro W hSw
    have l0 : W.cell? ⟨w.heap.size, 2, none⟩ = some (.int .i64 c.time) := hSw.2.1.cell 2
    go_simp
    try with_reducible rfl
   try simp only [Act.put, zA, zB, zC]
   refine zT 9 47 ?_ rfl (by rfl) ?_ hHeld ?_
   rotate_left
   ·intro W hSw
    go_simp
    try with_reducible rfl
   try simp only [Act.put, zA, zB, zC]
   refine zT 10 48 ?_ rfl (by rfl) ?_ hHeld ?_
   rotate_left
   ·intro W hSw
    have l0 : W.cell? ⟨w.heap.size, 3, none⟩ = some (.int .i64 c.next) := hSw.2.1.cell 3
    go_simp
    try with_reducible rfl
   try simp only [Act.put, zA, zB, zC]
   refine zT 12 50 ?_ rfl (by rfl) ?_ hHeld ?_
   rotate_left
   ·intro W hSw
    go_simp
    try with_reducible rfl
   try simp only [Act.put, zA, zB, zC]
   refine zT 13 51 ?_ rfl (by rfl) ?_ hHeld ?_
   rotate_left
   ·intro W hSw
    have l0 : W.cell? ⟨w.heap.size, 4, none⟩ = some (.int .i64 c.plan) := hSw.2.1.cell 4
    go_simp
    try with_reducible rfl
   try simp only [Act.put, zA, zB, zC]
   refine zT 15 53 ?_ rfl (by rfl) ?_ hHeld ?_
   rotate_left
   ·intro W hSw
    go_simp
    try with_reducible rfl
   try simp only [Act.put, zA, zB, zC]
   refine zT 16 54 ?_ rfl (by rfl) ?_ hHeld ?_
   rotate_left
   ·intro W hSw
    have l0 : W.cell? ⟨w.heap.size, 5, none⟩ = some (.int .i64 c.err) := hSw.2.1.cell 5
    go_simp
    try with_reducible rfl
   try simp only [Act.put, zA, zB, zC]
   refine zT 18 56 ?_ rfl (by rfl) ?_ hHeld ?_
   rotate_left
   ·intro W hSw
    obtain ⟨⟨l0, l1, l2⟩, -⟩ := cell_in hSw.2.2.2
    go_simp
    try with_reducible rfl
   try simp only [Act.put, zA, zB, zC]
   refine wpAnyH_ready (rs := [2]) (by kernel_rfl) (by simp) ?_
   refine AllReadyH.cons (o := ⟨some 40, _, _, _, _, _⟩) rfl (fun K hK => ?_) AllReadyH.nil
   go_simp
   refine (bytes_any c.hash _).mono ?_
   rintro e v1 ⟨rfl, hv⟩
   have hH := KM5.below hHeld hv
   have HE1 : Hid (∃ fp, OwnK v1 (w.heap.size + 3) 3 (.slice axe le cape) (c.ans.map ansI) fp) := by
    obtain ⟨fp, h⟩ := HE0.out
    exact ⟨fp, h.below hv (fun b hb => (OwnK.lt h b hb).2)⟩
   clear HE0
   go_wp2_with fail
   refine hK.out _ _ hH (fun hHeld => ?_)
   clear hK K hH hv
   try simp only [Act.put, zA, zB, zC]
   refine wpAnyH_ready (rs := [5]) (by kernel_rfl) (by simp) ?_
   refine AllReadyH.cons (o := ⟨some 43, _, _, _, _, _⟩) rfl (fun K hK => ?_) AllReadyH.nil
   go_simp
   refine (specIntItem_any c.nonce _ HN.out.1).mono ?_
   rintro e v2 ⟨rfl, hv⟩
   have hH := KM5.below hHeld hv
   have HE2 : Hid (∃ fp, OwnK v2 (w.heap.size + 3) 3 (.slice axe le cape) (c.ans.map ansI) fp) := by
    obtain ⟨fp, h⟩ := HE1.out
    exact ⟨fp, h.below hv (fun b hb => (OwnK.lt h b hb).2)⟩
   clear HE1
   go_wp2_with fail
   refine hK.out _ _ hH (fun hHeld => ?_)
   clear hK K hH hv
   try simp only [Act.put, zA, zB, zC]
   refine wpAnyH_ready (rs := [8]) (by kernel_rfl) (by simp) ?_
   refine AllReadyH.cons (o := ⟨some 46, _, _, _, _, _⟩) rfl (fun K hK => ?_) AllReadyH.nil
   go_simp
   refine (specIntItem_any c.time _ HN.out.2.1).mono ?_
   rintro e v3 ⟨rfl, hv⟩
   have hH := KM5.below hHeld hv
   have HE3 : Hid (∃ fp, OwnK v3 (w.heap.size + 3) 3 (.slice axe le cape) (c.ans.map ansI) fp) := by
    obtain ⟨fp, h⟩ := HE2.out
    exact ⟨fp, h.below hv (fun b hb => (OwnK.lt h b hb).2)⟩
   clear HE2
   go_wp2_with fail
   refine hK.out _ _ hH (fun hHeld => ?_)
   clear hK K hH hv
   try simp only [Act.put, zA, zB, zC]
   refine wpAnyH_ready (rs := [11]) (by kernel_rfl) (by simp) ?_
   refine AllReadyH.cons (o := ⟨some 49, _, _, _, _, _⟩) rfl (fun K hK => ?_) AllReadyH.nil
   go_simp
   refine (specIntItem_any c.next _ HN.out.2.2.1).mono ?_
   rintro e v4 ⟨rfl, hv⟩
   have hH := KM5.below hHeld hv
   have HE4 : Hid (∃ fp, OwnK v4 (w.heap.size + 3) 3 (.slice axe le cape) (c.ans.map ansI) fp) := by
    obtain ⟨fp, h⟩ := HE3.out
    exact ⟨fp, h.below hv (fun b hb => (OwnK.lt h b hb).2)⟩
   clear HE3
   go_wp2_with fail
   refine hK.out _ _ hH (fun hHeld => ?_)
   clear hK K hH hv
   try simp only [Act.put, zA, zB, zC]
   refine wpAnyH_ready (rs := [14]) (by kernel_rfl) (by simp) ?_
   refine AllReadyH.cons (o := ⟨some 52, _, _, _, _, _⟩) rfl (fun K hK => ?_) AllReadyH.nil
   go_simp
   refine (specIntItem_any c.plan _ HN.out.2.2.2.1).mono ?_
   rintro e v5 ⟨rfl, hv⟩
   have hH := KM5.below hHeld hv
   have HE5 : Hid (∃ fp, OwnK v5 (w.heap.size + 3) 3 (.slice axe le cape) (c.ans.map ansI) fp) := by
    obtain ⟨fp, h⟩ := HE4.out
    exact ⟨fp, h.below hv (fun b hb => (OwnK.lt h b hb).2)⟩
   clear HE4
   go_wp2_with fail
   refine hK.out _ _ hH (fun hHeld => ?_)
   clear hK K hH hv
   try simp only [Act.put, zA, zB, zC]
   refine wpAnyH_ready (rs := [17]) (by kernel_rfl) (by simp) ?_
   refine AllReadyH.cons (o := ⟨some 55, _, _, _, _, _⟩) rfl (fun K hK => ?_) AllReadyH.nil
   go_simp
   refine (specIntItem_any c.err _ HN.out.2.2.2.2).mono ?_
   rintro e v6 ⟨rfl, hv⟩
   have hH := KM5.below hHeld hv
   have HE6 : Hid (∃ fp, OwnK v6 (w.heap.size + 3) 3 (.slice axe le cape) (c.ans.map ansI) fp) := by
    obtain ⟨fp, h⟩ := HE5.out
    exact ⟨fp, h.below hv (fun b hb => (OwnK.lt h b hb).2)⟩
   clear HE5
   go_wp2_with fail
   refine hK.out _ _ hH (fun hHeld => ?_)
   clear hK K hH hv
   try simp only [Act.put, zA, zB, zC]
   refine wpAnyH_ready (rs := [19]) (by kernel_rfl) (by simp) ?_
   refine AllReadyH.cons (o := ⟨some 57, _, _, _, _, _⟩) rfl (fun K hK => ?_) AllReadyH.nil
   have HF : Hid (∃ fq, OwnK (v6.alloc (Obj.cells #[.int .i64 4, .string c.hash, .slice none 0 0, .int .i64 2, .string ⟨(intT (numN c.nonce)).toArray⟩, .slice none 0 0, .int .i64 2, .string ⟨(intT (numN c.time)).toArray⟩, .slice none 0 0, .int .i64 2, .string ⟨(intT (numN c.next)).toArray⟩, .slice none 0 0, .int .i64 2, .string ⟨(intT (numN c.plan)).toArray⟩, .slice none 0 0, .int .i64 2, .string ⟨(intT (numN c.err)).toArray⟩, .slice none 0 0, .int .i64 48, .string ⟨#[]⟩, .slice axe le cape] 67)) (w.heap.size + 3) 4 (.slice (some ⟨v6.heap.size, 0, none⟩) 7 7) (It.kids (bodyR c)) fq) := by
    obtain ⟨fp, h⟩ := HE6.out
    exact bodyR_row h (KM5.size hHeld) rfl
   clear HE6
   go_simp
   refine hK.out _ _ (KM5.below hHeld ((Below.refl _ _).alloc (Nat.le_refl _) _)) (fun hHeld => ?_)
   clear hK K
   try simp only [Act.put, zA, zB, zC]
   refine zT 20 58 ?_ rfl (by rfl) ?_ hHeld ?_
   rotate_left
   ·intro W hSw
    go_simp
    try with_reducible rfl
   try simp only [Act.put, zA, zB, zC]
   refine wpAnyH_ready (rs := [21]) (by kernel_rfl) (by simp) ?_
   refine AllReadyH.cons (o := ⟨none, _, _, _, _, _⟩) rfl (fun K hK => ?_) AllReadyH.nil
   obtain ⟨W9, hW9⟩ : ∃ W, W = v6.alloc (Obj.cells #[.int .i64 4, .string c.hash, .slice none 0 0, .int .i64 2, .string ⟨(intT (numN c.nonce)).toArray⟩, .slice none 0 0, .int .i64 2, .string ⟨(intT (numN c.time)).toArray⟩, .slice none 0 0, .int .i64 2, .string ⟨(intT (numN c.next)).toArray⟩, .slice none 0 0, .int .i64 2, .string ⟨(intT (numN c.plan)).toArray⟩, .slice none 0 0, .int .i64 2, .string ⟨(intT (numN c.err)).toArray⟩, .slice none 0 0, .int .i64 48, .string ⟨#[]⟩, .slice axe le cape] 67) := ⟨_, rfl⟩
   obtain ⟨q9, hq9⟩ := zE (v6.heap.size)
   rw [<- hW9] at HF hHeld |-
   rw [hq9] at HF |-
   clear hW9 hq9
   obtain ⟨x9, y9, z9, hB9⟩ := hHeld.2.2.1
   obtain ⟨⟨r0, r1, r2⟩, rf⟩ := cell_in hB9
   go_simp
   refine hK.out _ _ (KM5.set hHeld _ _ _) (fun hHeld => ?_)
   clear hK K
   try simp only [Act.put, zA, zB, zC]
   refine wpAnyH_done (by kernel_rfl) ?_ _
   have HEND : Hid (Below w.heap.size w _) := hHeld.1
   clear hHeld
   go_wp2_with fail
   refine bodyPost_ret (v := .agg #[.int .i64 48, .string ⟨#[]⟩, .slice (some ⟨q9, 0, none⟩) 7 7]) (by simp [results, Try.results64, go_sem, r0, r1, r2]; try rfl) rfl ?_
   obtain ⟨fp, hfp⟩ := HF.out
   refine ⟨.slice (some ⟨q9, 0, none⟩) 7 7, fp, rfl, ?_, HEND.out⟩
   refine OwnK.base (base := w.heap.size + 3) (by omega) (hfp.same fun b hb => ?_)
   have h1 := (OwnK.lt hfp b hb).1
   rw [heap_setCell_other _ _ _ _ (by show b ≠ w.heap.size + 1; omega), heap_setCell_other _ _ _ _ (by show b ≠ w.heap.size + 1; omega), heap_setCell_other _ _ _ _ (by show b ≠ w.heap.size + 1; omega)]
end Go.Proofs.Ytbiiihjohbnodaa
