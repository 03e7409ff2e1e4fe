/-
  Texts of the proof.
-/
import Derived.Test.YtbiiihjohbnodaaMRs11
import Derived.Test.YtbiiihjohbnodaaMRs14
set_option maxRecDepth 100000
set_option maxHeartbeats 25600000
namespace Go.Proofs.Ytbiiihjohbnodaa
open Go.RowKit
set_option linter.unusedVariables false
def askOk (c : Ak) : Bool := (tgOk c.tg && inB c.tg.length 1 3) && (inB c.plan 0 99 && (inB c.want 0 3 && (inB c.nonce 0 1000000000 && inB c.time 0 9999)))
theorem specAskOk_any (c : Ak) (v : Value) (w : World) (hz : wtAk c <= 1000000000) (ha : AkAt w v c) :
  Calls Try.prog 12 #[v] w fun e w' => e = .returned (.bool (askOk c)) /\ Below w.heap.size w w' := by
 obtain ⟨pv, rfl, h1⟩ := ha
 obtain ⟨pa, pc, hpa⟩ : ∃ ao cap, pv = .slice ao c.tg.length cap := by obtain ⟨ao, cap, h, _⟩ := h1; exact ⟨ao, cap, h⟩
 have hll := Nat.le_trans (tot_len c.tg) hz
 obtain ⟨lp, hlp⟩ := zE (c.tg.length)
 rw [hlp] at hpa hll
 subst hpa
 obtain ⟨B1, hB1⟩ := zE (inB c.tg.length 1 3)
 have E1 : Hid (∀ W, Below w.heap.size w W -> Calls Try.prog 41 #[.int .i64 (lp : Int), .int .i64 1, .int .i64 3] W fun e w' => e = .returned (.bool B1) /\ Below W.heap.size W w') := fun W hb => by rw [<- hB1]; exact by rw [hlp]; exact in_any _ _ _ W
 obtain ⟨B2, hB2⟩ := zE (inB c.plan 0 99)
 have E2 : Hid (∀ W, Below w.heap.size w W -> Calls Try.prog 41 #[.int .i64 c.plan, .int .i64 0, .int .i64 99] W fun e w' => e = .returned (.bool B2) /\ Below W.heap.size W w') := fun W hb => by rw [<- hB2]; exact in_any _ _ _ W
 obtain ⟨B3, hB3⟩ := zE (inB c.want 0 3)
 have E3 : Hid (∀ W, Below w.heap.size w W -> Calls Try.prog 41 #[.int .i64 c.want, .int .i64 0, .int .i64 3] W fun e w' => e = .returned (.bool B3) /\ Below W.heap.size W w') := fun W hb => by rw [<- hB3]; exact in_any _ _ _ W
 obtain ⟨B4, hB4⟩ := zE (inB c.nonce 0 1000000000)
 have E4 : Hid (∀ W, Below w.heap.size w W -> Calls Try.prog 41 #[.int .i64 c.nonce, .int .i64 0, .int .i64 1000000000] W fun e w' => e = .returned (.bool B4) /\ Below W.heap.size W w') := fun W hb => by rw [<- hB4]; exact in_any _ _ _ W
 obtain ⟨B5, hB5⟩ := zE (inB c.time 0 9999)
 have E5 : Hid (∀ W, Below w.heap.size w W -> Calls Try.prog 42 #[.int .i64 c.time] W fun e w' => e = .returned (.bool B5) /\ Below W.heap.size W w') := fun W hb => by rw [<- hB5]; exact num_any _ W
 have HC0 : Hid (askOk c = ((tgOk c.tg && B1) && (B2 && (B3 && (B4 && B5))))) := by show askOk c = _; unfold askOk; rw [hB1, hB2, hB3, hB4, hB5]
 have HT : Hid (TxtAt w (.slice pa lp pc) c.tg /\ c.tg.length = lp) := ⟨h1, hlp⟩
 have HZ : Hid (wtAk c <= 1000000000) := hz
 clear hB1 hB2 hB3 hB4 hB5 h1 hlp hz
 unfold akV
 go_enter Try.func12, Try.ntmps12
 go_wp2_with fail
 obtain ⟨V0, hV⟩ : ∃ V, V = w.alloc (Obj.cells #[.slice pa lp pc, .int .i64 c.plan, .int .i64 c.want, .int .i64 c.nonce, .int .i64 c.time, .bool c.cac] 27) := ⟨_, rfl⟩
 rw [<- hV]
 have G0 : Hid (Below w.heap.size w V0 /\ Blk V0 w.heap.size 27 #[.slice pa lp pc, .int .i64 c.plan, .int .i64 c.want, .int .i64 c.nonce, .int .i64 c.time, .bool c.cac]) := by rw [hV]; exact ⟨(Below.refl _ _).alloc (Nat.le_refl _) _, Blk.new w _ _⟩
 clear hV
 go_loopw [3] (fun iv wr => ∃ k : Nat, k <= lp /\ iv = .int .i64 k /\ Hid (∀ j, j < k -> (c.tg.getD j ByteArray.empty).size <= 400) /\ Hid (Below w.heap.size w wr /\ Blk wr w.heap.size 27 #[.slice pa lp pc, .int .i64 c.plan, .int .i64 c.want, .int .i64 c.nonce, .int .i64 c.time, .bool c.cac])) (fun iv _ => lp - (intOf iv).toNat)
 case atStart => exact ⟨0, Nat.zero_le _, rfl, fun j hj => absurd hj (Nat.not_lt_zero _), G0⟩
 case round =>
  obtain ⟨k, hk, rfl, HL, G1⟩ := hrel
  clear G0
  have d0 : wr.cell? ⟨w.heap.size, 0, none⟩ = some (.slice pa lp pc) := G1.out.2.cell 0
  by_cases hlt : k < lp
  ·obtain ⟨ao, cap, he, hcell⟩ := HT.out.1
   obtain ⟨g, hg, hgw, hcs⟩ := hcell k (by rw [HT.out.2]; exact hlt)
   injection he with e1 e2 e3
   have hpg : pa = some ⟨g, 0, none⟩ := by rw [e1]; exact hg
   have hc1 : wr.cell? ⟨g, k, none⟩ = some (.string (c.tg.getD k ByteArray.empty)) := (G1.out.1.cell (p := ⟨g, k, none⟩) hgw).trans hcs
   have hsx : (c.tg.getD k ByteArray.empty).size <= 1000000000 := by
    have hm : c.tg.getD k ByteArray.empty ∈ c.tg := by rw [List.getD_eq_getElem?_getD, List.getElem?_eq_getElem (by rw [HT.out.2]; exact hlt)]; exact List.getElem_mem _
    exact Nat.le_trans (tot_mem c.tg _ hm) HZ.out
   have hki : (k : Int) < (lp : Int) := by omega
   have hk0 : (0 : Int) <= (k : Int) := by omega
   obtain ⟨x, hx⟩ := zE (c.tg.getD k ByteArray.empty)
   rw [hx] at hc1 hsx
   have HX : Hid (c.tg.getD k ByteArray.empty = x) := hx
   subst hpg
   clear hcell hcs e1 e2 e3 hg hx hgw
   by_cases h4 : x.size <= 400
   ·have h4i : ¬ (400 : Int) < (x.size : Int) := by omega
    have HN : Hid (∀ j, j < k + 1 -> (c.tg.getD j ByteArray.empty).size <= 400) := fun j hj => by
     rcases Nat.lt_or_ge j k with h | h
     ·exact HL.out j h
     ·have : j = k := by omega
      subst this
      rw [HX.out]; exact h4
    clear HL
    go_wp2_with fail
    go_roundw
    case rel => exact ⟨k + 1, by omega, by go_num, HN, G1⟩
    case measure => simp [intOf]; omega
   ·have h4i : (400 : Int) < (x.size : Int) := by omega
    have HF : Hid (askOk c = false) := by rw [HC0.out, tg_no (k := k) (by rw [HT.out.2]; exact hlt) (by rw [HX.out]; exact h4)]; rfl
    go_wp2_with fail
    go_ret
    exact ⟨by rw [HF.out]; rfl, G1.out.1⟩
  ·have hkl : lp = k := by omega
   subst hkl
   have HC : Hid (askOk c = (B1 && (B2 && (B3 && (B4 && B5))))) := by rw [HC0.out, tg_yes (fun j hj => HL.out j (by rw [<- HT.out.2]; exact hj))]; rfl
   clear HC0 HL
   go_wp2_with fail
   refine (E1.out wr G1.out.1).mono ?_
   rintro e V2 ⟨rfl, hb⟩
   have G2 : Hid (Below w.heap.size w V2 /\ Blk V2 w.heap.size 27 #[.slice pa lp pc, .int .i64 c.plan, .int .i64 c.want, .int .i64 c.nonce, .int .i64 c.time, .bool c.cac]) := ⟨G1.out.1.trans (hb.mono G1.out.1.size), G1.out.2.below hb G1.out.2.lt⟩
   clear hb E1 G1
   have d20 : V2.cell? ⟨w.heap.size, 0, none⟩ = some (.slice pa lp pc) := G2.out.2.cell 0
   have d21 : V2.cell? ⟨w.heap.size, 1, none⟩ = some (.int .i64 c.plan) := G2.out.2.cell 1
   have d22 : V2.cell? ⟨w.heap.size, 2, none⟩ = some (.int .i64 c.want) := G2.out.2.cell 2
   have d23 : V2.cell? ⟨w.heap.size, 3, none⟩ = some (.int .i64 c.nonce) := G2.out.2.cell 3
   have d24 : V2.cell? ⟨w.heap.size, 4, none⟩ = some (.int .i64 c.time) := G2.out.2.cell 4
   have d25 : V2.cell? ⟨w.heap.size, 5, none⟩ = some (.bool c.cac) := G2.out.2.cell 5
   cases B1 with
   | false =>
    go_wp2_with fail
    go_ret
    exact ⟨by rw [HC.out]; rfl, G2.out.1⟩
   | true =>
    go_wp2_with fail
    refine (E2.out V2 G2.out.1).mono ?_
    rintro e V3 ⟨rfl, hb⟩
    have G3 : Hid (Below w.heap.size w V3 /\ Blk V3 w.heap.size 27 #[.slice pa lp pc, .int .i64 c.plan, .int .i64 c.want, .int .i64 c.nonce, .int .i64 c.time, .bool c.cac]) := ⟨G2.out.1.trans (hb.mono G2.out.1.size), G2.out.2.below hb G2.out.2.lt⟩
    clear hb E2 G2
    have d30 : V3.cell? ⟨w.heap.size, 0, none⟩ = some (.slice pa lp pc) := G3.out.2.cell 0
    have d31 : V3.cell? ⟨w.heap.size, 1, none⟩ = some (.int .i64 c.plan) := G3.out.2.cell 1
    have d32 : V3.cell? ⟨w.heap.size, 2, none⟩ = some (.int .i64 c.want) := G3.out.2.cell 2
    have d33 : V3.cell? ⟨w.heap.size, 3, none⟩ = some (.int .i64 c.nonce) := G3.out.2.cell 3
    have d34 : V3.cell? ⟨w.heap.size, 4, none⟩ = some (.int .i64 c.time) := G3.out.2.cell 4
    have d35 : V3.cell? ⟨w.heap.size, 5, none⟩ = some (.bool c.cac) := G3.out.2.cell 5
    cases B2 with
    | false =>
     go_wp2_with fail
     go_ret
     exact ⟨by rw [HC.out]; rfl, G3.out.1⟩
    | true =>
     go_wp2_with fail
     refine (E3.out V3 G3.out.1).mono ?_
     rintro e V4 ⟨rfl, hb⟩
     have G4 : Hid (Below w.heap.size w V4 /\ Blk V4 w.heap.size 27 #[.slice pa lp pc, .int .i64 c.plan, .int .i64 c.want, .int .i64 c.nonce, .int .i64 c.time, .bool c.cac]) := ⟨G3.out.1.trans (hb.mono G3.out.1.size), G3.out.2.below hb G3.out.2.lt⟩
     clear hb E3 G3
     have d40 : V4.cell? ⟨w.heap.size, 0, none⟩ = some (.slice pa lp pc) := G4.out.2.cell 0
     have d41 : V4.cell? ⟨w.heap.size, 1, none⟩ = some (.int .i64 c.plan) := G4.out.2.cell 1
     have d42 : V4.cell? ⟨w.heap.size, 2, none⟩ = some (.int .i64 c.want) := G4.out.2.cell 2
     have d43 : V4.cell? ⟨w.heap.size, 3, none⟩ = some (.int .i64 c.nonce) := G4.out.2.cell 3
     have d44 : V4.cell? ⟨w.heap.size, 4, none⟩ = some (.int .i64 c.time) := G4.out.2.cell 4
     have d45 : V4.cell? ⟨w.heap.size, 5, none⟩ = some (.bool c.cac) := G4.out.2.cell 5
     cases B3 with
     | false =>
      go_wp2_with fail
      go_ret
      exact ⟨by rw [HC.out]; rfl, G4.out.1⟩
     | true =>
      go_wp2_with fail
      refine (E4.out V4 G4.out.1).mono ?_
      rintro e V5 ⟨rfl, hb⟩
      have G5 : Hid (Below w.heap.size w V5 /\ Blk V5 w.heap.size 27 #[.slice pa lp pc, .int .i64 c.plan, .int .i64 c.want, .int .i64 c.nonce, .int .i64 c.time, .bool c.cac]) := ⟨G4.out.1.trans (hb.mono G4.out.1.size), G4.out.2.below hb G4.out.2.lt⟩
      clear hb E4 G4
      have d50 : V5.cell? ⟨w.heap.size, 0, none⟩ = some (.slice pa lp pc) := G5.out.2.cell 0
      have d51 : V5.cell? ⟨w.heap.size, 1, none⟩ = some (.int .i64 c.plan) := G5.out.2.cell 1
      have d52 : V5.cell? ⟨w.heap.size, 2, none⟩ = some (.int .i64 c.want) := G5.out.2.cell 2
      have d53 : V5.cell? ⟨w.heap.size, 3, none⟩ = some (.int .i64 c.nonce) := G5.out.2.cell 3
      have d54 : V5.cell? ⟨w.heap.size, 4, none⟩ = some (.int .i64 c.time) := G5.out.2.cell 4
      have d55 : V5.cell? ⟨w.heap.size, 5, none⟩ = some (.bool c.cac) := G5.out.2.cell 5
      cases B4 with
      | false =>
       go_wp2_with fail
       go_ret
       exact ⟨by rw [HC.out]; rfl, G5.out.1⟩
      | true =>
       go_wp2_with fail
       refine (E5.out V5 G5.out.1).mono ?_
       rintro e V6 ⟨rfl, hb⟩
       have G6 : Hid (Below w.heap.size w V6 /\ Blk V6 w.heap.size 27 #[.slice pa lp pc, .int .i64 c.plan, .int .i64 c.want, .int .i64 c.nonce, .int .i64 c.time, .bool c.cac]) := ⟨G5.out.1.trans (hb.mono G5.out.1.size), G5.out.2.below hb G5.out.2.lt⟩
       clear hb E5 G5
       have d60 : V6.cell? ⟨w.heap.size, 0, none⟩ = some (.slice pa lp pc) := G6.out.2.cell 0
       have d61 : V6.cell? ⟨w.heap.size, 1, none⟩ = some (.int .i64 c.plan) := G6.out.2.cell 1
       have d62 : V6.cell? ⟨w.heap.size, 2, none⟩ = some (.int .i64 c.want) := G6.out.2.cell 2
       have d63 : V6.cell? ⟨w.heap.size, 3, none⟩ = some (.int .i64 c.nonce) := G6.out.2.cell 3
       have d64 : V6.cell? ⟨w.heap.size, 4, none⟩ = some (.int .i64 c.time) := G6.out.2.cell 4
       have d65 : V6.cell? ⟨w.heap.size, 5, none⟩ = some (.bool c.cac) := G6.out.2.cell 5
       go_wp2_with fail
       go_ret
       exact ⟨by rw [HC.out]; rfl, G6.out.1⟩
theorem targetsRight_any (l : List ByteArray) (v : Value) (w : World) (hz : totT l <= 1000000000) (h1 : TxtAt w v l) :
  Calls Try.prog 44 #[v] w fun e w' => e = .returned (.bool (tgOk l && inB l.length 1 3)) /\ Below w.heap.size w w' := by
 have E := textsFit_any l v 3 w hz h1
 have hll := Nat.le_trans (tot_len l) hz
 obtain ⟨pa, pc, rfl, -⟩ := h1
 obtain ⟨lp, hlp⟩ := zE (l.length)
 obtain ⟨R, hR⟩ := zE ((tgOk l && inB l.length 1 3))
 obtain ⟨B, hB⟩ := zE (txOk l 3)
 have HR : Hid ((tgOk l && inB l.length 1 3) = R) := hR
 have HB : Hid (txOk l 3 = B) := hB
 have HL : Hid (l.length = lp) := hlp
 rw [hR]
 rw [hlp] at E hll |-
 rw [hB] at E
 clear hB hz hlp hR
 by_cases h0 : 0 < lp
 ·have h0i : (0 : Int) < (lp : Int) := by omega
  have HF : Hid (R = B) := by
   have e : inB (l.length : Int) 1 3 = decide (l.length <= 3) := by
    have := HL.out
    unfold inB
    by_cases h3 : l.length <= 3
    ·rw [decide_eq_true h3]; exact decide_eq_true (by omega)
    ·rw [decide_eq_false h3]; exact decide_eq_false (by omega)
   show R = B
   rw [<- HR.out, <- HB.out, e]
   rfl
  clear h0
  go_enter Try.func44, Try.ntmps44
  go_wp2_with fail
  refine E.mono ?_
  rintro e w2 ⟨rfl, hb⟩
  have G2 : Hid (Below w.heap.size w w2) := hb
  clear E hb
  cases B with
  | false =>
   go_wp2_with fail
   go_ret
   exact ⟨by rw [HF.out]; rfl, G2.out⟩
  | true =>
   go_wp2_with fail
   go_ret
   exact ⟨by rw [HF.out]; rfl, G2.out⟩
 ·have h0i : ¬ (0 : Int) < (lp : Int) := by omega
  have HF : Hid (R = false) := by
   have e : inB (l.length : Int) 1 3 = false := by
    have := HL.out
    unfold inB
    exact decide_eq_false (by omega)
   show R = false
   rw [<- HR.out, e]
   simp
  clear h0
  go_enter Try.func44, Try.ntmps44
  go_wp2_with fail
  go_ret
  exact ⟨by rw [HF.out]; rfl, Below.refl _ _⟩
theorem implAskOk_any (c : Ak) (v : Value) (w : World) (hz : wtAk c <= 1000000000) (ha : AkAt w v c) :
  Calls Try.prog 14 #[v] w fun e w' => e = .returned (.bool (askOk c)) /\ Below w.heap.size w w' := by
 obtain ⟨pv, rfl, h1⟩ := ha
 obtain ⟨pa, pc, hpa⟩ : ∃ ao cap, pv = .slice ao c.tg.length cap := by obtain ⟨ao, cap, h, _⟩ := h1; exact ⟨ao, cap, h⟩
 have hll := Nat.le_trans (tot_len c.tg) hz
 obtain ⟨lp, hlp⟩ := zE (c.tg.length)
 rw [hlp] at hpa hll
 subst hpa
 obtain ⟨B1, hB1⟩ := zE ((tgOk c.tg && inB (c.tg.length : Int) 1 3))
 have E1 : Hid (∀ W, Below w.heap.size w W -> Calls Try.prog 44 #[.slice pa lp pc] W fun e w' => e = .returned (.bool B1) /\ Below W.heap.size W w') := fun W hb => by rw [<- hB1]; exact targetsRight_any c.tg _ W hz (h1.below hb)
 obtain ⟨B2, hB2⟩ := zE (inB c.plan 0 99)
 have E2 : Hid (∀ W, Below w.heap.size w W -> Calls Try.prog 45 #[.int .i64 99, .int .i64 c.plan] W fun e w' => e = .returned (.bool B2) /\ Below W.heap.size W w') := fun W hb => by rw [<- hB2]; exact upTo_any _ _ W
 obtain ⟨B3, hB3⟩ := zE (inB c.want 0 3)
 have E3 : Hid (∀ W, Below w.heap.size w W -> Calls Try.prog 45 #[.int .i64 3, .int .i64 c.want] W fun e w' => e = .returned (.bool B3) /\ Below W.heap.size W w') := fun W hb => by rw [<- hB3]; exact upTo_any _ _ W
 obtain ⟨B4, hB4⟩ := zE (inB c.nonce 0 1000000000)
 have E4 : Hid (∀ W, Below w.heap.size w W -> Calls Try.prog 45 #[.int .i64 1000000000, .int .i64 c.nonce] W fun e w' => e = .returned (.bool B4) /\ Below W.heap.size W w') := fun W hb => by rw [<- hB4]; exact upTo_any _ _ W
 obtain ⟨B5, hB5⟩ := zE (inB c.time 0 9999)
 have E5 : Hid (∀ W, Below w.heap.size w W -> Calls Try.prog 45 #[.int .i64 9999, .int .i64 c.time] W fun e w' => e = .returned (.bool B5) /\ Below W.heap.size W w') := fun W hb => by rw [<- hB5]; exact upTo_any _ _ W
 have HC : Hid (askOk c = (B1 && (B2 && (B3 && (B4 && B5))))) := by show askOk c = _; unfold askOk; rw [hB1, hB2, hB3, hB4, hB5]
 clear hB1 hB2 hB3 hB4 hB5 h1 hlp hz
 unfold akV
 go_enter Try.func14, Try.ntmps14
 go_wp2_with fail
 obtain ⟨V0, hV⟩ : ∃ V, V = w.alloc (Obj.cells #[.slice pa lp pc, .int .i64 c.plan, .int .i64 c.want, .int .i64 c.nonce, .int .i64 c.time, .bool c.cac] 27) := ⟨_, rfl⟩
 rw [<- hV]
 have G0 : Hid (Below w.heap.size w V0 /\ Blk V0 w.heap.size 27 #[.slice pa lp pc, .int .i64 c.plan, .int .i64 c.want, .int .i64 c.nonce, .int .i64 c.time, .bool c.cac]) := by rw [hV]; exact ⟨(Below.refl _ _).alloc (Nat.le_refl _) _, Blk.new w _ _⟩
 clear hV
 refine (E1.out V0 G0.out.1).mono ?_
 rintro e V1 ⟨rfl, hb⟩
 have G1 : Hid (Below w.heap.size w V1 /\ Blk V1 w.heap.size 27 #[.slice pa lp pc, .int .i64 c.plan, .int .i64 c.want, .int .i64 c.nonce, .int .i64 c.time, .bool c.cac]) := ⟨G0.out.1.trans (hb.mono G0.out.1.size), G0.out.2.below hb G0.out.2.lt⟩
 clear hb E1 G0
 have d10 : V1.cell? ⟨w.heap.size, 0, none⟩ = some (.slice pa lp pc) := G1.out.2.cell 0
 have d11 : V1.cell? ⟨w.heap.size, 1, none⟩ = some (.int .i64 c.plan) := G1.out.2.cell 1
 have d12 : V1.cell? ⟨w.heap.size, 2, none⟩ = some (.int .i64 c.want) := G1.out.2.cell 2
 have d13 : V1.cell? ⟨w.heap.size, 3, none⟩ = some (.int .i64 c.nonce) := G1.out.2.cell 3
 have d14 : V1.cell? ⟨w.heap.size, 4, none⟩ = some (.int .i64 c.time) := G1.out.2.cell 4
 have d15 : V1.cell? ⟨w.heap.size, 5, none⟩ = some (.bool c.cac) := G1.out.2.cell 5
 cases B1 with
 | false =>
  go_wp2_with fail
  go_ret
  exact ⟨by rw [HC.out]; rfl, G1.out.1⟩
 | true =>
  go_wp2_with fail
  refine (E2.out V1 G1.out.1).mono ?_
  rintro e V2 ⟨rfl, hb⟩
  have G2 : Hid (Below w.heap.size w V2 /\ Blk V2 w.heap.size 27 #[.slice pa lp pc, .int .i64 c.plan, .int .i64 c.want, .int .i64 c.nonce, .int .i64 c.time, .bool c.cac]) := ⟨G1.out.1.trans (hb.mono G1.out.1.size), G1.out.2.below hb G1.out.2.lt⟩
  clear hb E2 G1
  have d20 : V2.cell? ⟨w.heap.size, 0, none⟩ = some (.slice pa lp pc) := G2.out.2.cell 0
  have d21 : V2.cell? ⟨w.heap.size, 1, none⟩ = some (.int .i64 c.plan) := G2.out.2.cell 1
  have d22 : V2.cell? ⟨w.heap.size, 2, none⟩ = some (.int .i64 c.want) := G2.out.2.cell 2
  have d23 : V2.cell? ⟨w.heap.size, 3, none⟩ = some (.int .i64 c.nonce) := G2.out.2.cell 3
  have d24 : V2.cell? ⟨w.heap.size, 4, none⟩ = some (.int .i64 c.time) := G2.out.2.cell 4
  have d25 : V2.cell? ⟨w.heap.size, 5, none⟩ = some (.bool c.cac) := G2.out.2.cell 5
  cases B2 with
  | false =>
   go_wp2_with fail
   go_ret
   exact ⟨by rw [HC.out]; rfl, G2.out.1⟩
  | true =>
   go_wp2_with fail
   refine (E3.out V2 G2.out.1).mono ?_
   rintro e V3 ⟨rfl, hb⟩
   have G3 : Hid (Below w.heap.size w V3 /\ Blk V3 w.heap.size 27 #[.slice pa lp pc, .int .i64 c.plan, .int .i64 c.want, .int .i64 c.nonce, .int .i64 c.time, .bool c.cac]) := ⟨G2.out.1.trans (hb.mono G2.out.1.size), G2.out.2.below hb G2.out.2.lt⟩
   clear hb E3 G2
   have d30 : V3.cell? ⟨w.heap.size, 0, none⟩ = some (.slice pa lp pc) := G3.out.2.cell 0
   have d31 : V3.cell? ⟨w.heap.size, 1, none⟩ = some (.int .i64 c.plan) := G3.out.2.cell 1
   have d32 : V3.cell? ⟨w.heap.size, 2, none⟩ = some (.int .i64 c.want) := G3.out.2.cell 2
   have d33 : V3.cell? ⟨w.heap.size, 3, none⟩ = some (.int .i64 c.nonce) := G3.out.2.cell 3
   have d34 : V3.cell? ⟨w.heap.size, 4, none⟩ = some (.int .i64 c.time) := G3.out.2.cell 4
   have d35 : V3.cell? ⟨w.heap.size, 5, none⟩ = some (.bool c.cac) := G3.out.2.cell 5
   cases B3 with
   | false =>
    go_wp2_with fail
    go_ret
    exact ⟨by rw [HC.out]; rfl, G3.out.1⟩
   | true =>
    go_wp2_with fail
    refine (E4.out V3 G3.out.1).mono ?_
    rintro e V4 ⟨rfl, hb⟩
    have G4 : Hid (Below w.heap.size w V4 /\ Blk V4 w.heap.size 27 #[.slice pa lp pc, .int .i64 c.plan, .int .i64 c.want, .int .i64 c.nonce, .int .i64 c.time, .bool c.cac]) := ⟨G3.out.1.trans (hb.mono G3.out.1.size), G3.out.2.below hb G3.out.2.lt⟩
    clear hb E4 G3
    have d40 : V4.cell? ⟨w.heap.size, 0, none⟩ = some (.slice pa lp pc) := G4.out.2.cell 0
    have d41 : V4.cell? ⟨w.heap.size, 1, none⟩ = some (.int .i64 c.plan) := G4.out.2.cell 1
    have d42 : V4.cell? ⟨w.heap.size, 2, none⟩ = some (.int .i64 c.want) := G4.out.2.cell 2
    have d43 : V4.cell? ⟨w.heap.size, 3, none⟩ = some (.int .i64 c.nonce) := G4.out.2.cell 3
    have d44 : V4.cell? ⟨w.heap.size, 4, none⟩ = some (.int .i64 c.time) := G4.out.2.cell 4
    have d45 : V4.cell? ⟨w.heap.size, 5, none⟩ = some (.bool c.cac) := G4.out.2.cell 5
    cases B4 with
    | false =>
     go_wp2_with fail
     go_ret
     exact ⟨by rw [HC.out]; rfl, G4.out.1⟩
    | true =>
     go_wp2_with fail
     refine (E5.out V4 G4.out.1).mono ?_
     rintro e V5 ⟨rfl, hb⟩
     have G5 : Hid (Below w.heap.size w V5 /\ Blk V5 w.heap.size 27 #[.slice pa lp pc, .int .i64 c.plan, .int .i64 c.want, .int .i64 c.nonce, .int .i64 c.time, .bool c.cac]) := ⟨G4.out.1.trans (hb.mono G4.out.1.size), G4.out.2.below hb G4.out.2.lt⟩
     clear hb E5 G4
     have d50 : V5.cell? ⟨w.heap.size, 0, none⟩ = some (.slice pa lp pc) := G5.out.2.cell 0
     have d51 : V5.cell? ⟨w.heap.size, 1, none⟩ = some (.int .i64 c.plan) := G5.out.2.cell 1
     have d52 : V5.cell? ⟨w.heap.size, 2, none⟩ = some (.int .i64 c.want) := G5.out.2.cell 2
     have d53 : V5.cell? ⟨w.heap.size, 3, none⟩ = some (.int .i64 c.nonce) := G5.out.2.cell 3
     have d54 : V5.cell? ⟨w.heap.size, 4, none⟩ = some (.int .i64 c.time) := G5.out.2.cell 4
     have d55 : V5.cell? ⟨w.heap.size, 5, none⟩ = some (.bool c.cac) := G5.out.2.cell 5
     go_wp2_with fail
     go_ret
     exact ⟨by rw [HC.out]; rfl, G5.out.1⟩
end Go.Proofs.Ytbiiihjohbnodaa
namespace Go.Proofs.Ytbiiihjohbnodaa
open Go.RowKit Der
set_option linter.unusedVariables false
theorem bytsI_any (n : Nat) (ls : List ByteArray) (v : Value) (w : World) (hz : ls.length <= 20000000) (hwd : WdT ls) (hx : TxtAt w v ls) :
  Calls Try.prog 48 #[v] w fun e w' => ToIt w (n + 1) (lstJ (ls.map bytJ)) e w' := by
 obtain ⟨ax, cx, rfl, hcell⟩ := id hx
 obtain ⟨l, hle⟩ := zE (ls.length)
 have HX : Hid ((∀ j, j < ls.length -> ∃ g, ax = some ⟨g, 0, none⟩ /\ g < w.heap.size /\ w.cell? ⟨g, j, none⟩ = some (.string (ls.getD j ByteArray.empty))) /\ ls.length = l /\ WdT ls) := ⟨hcell, hle, hwd⟩
 have hlb : l <= 20000000 := by rw [<- hle]; exact hz
 rw [hle]
 clear hx hz hle hcell hwd
 obtain ⟨ks, hks⟩ : ∃ ks : List (It (n + 1)), ls.map bytJ = ks := ⟨_, rfl⟩
 rw [hks]
 have HK0 : Hid (ls.map bytJ = ks /\ ks.length = l) := ⟨hks, by rw [<- hks, List.length_map]; exact HX.out.2.1⟩
 clear hks
 go_enter Try.func48, Try.ntmps48
 go_wp2_with fail
 obtain ⟨W3, hW3⟩ : ∃ W, W = (w.alloc (Obj.cells #[Value.int IntKind.i64 0, Value.string { data := #[] }, Value.slice none 0 0] 67)).alloc (Obj.cells #[Value.int IntKind.i64 48, Value.string { data := #[] }, Value.slice none 0 0] 67) := ⟨_, rfl⟩
 rw [<- hW3]
 have H3 : Hid (Below w.heap.size w W3 /\ W3.heap.size = w.heap.size + 2 /\ Blk3 W3 w.heap.size (.int .i64 0) (.string ⟨#[]⟩) (.slice none 0 0) /\ Blk3 W3 (w.heap.size + 1) (.int .i64 48) (.string ⟨#[]⟩) (.slice none 0 0)) := two_blk w _ _ _ _ _ _ W3 hW3
 clear hW3
 go_loopw [4] (fun iv wr => ∃ k : Nat, k <= l /\ iv = .int .i64 k /\ Hid (∃ kv : Value, Blk3 wr w.heap.size (.int .i64 0) (.string ⟨#[]⟩) (.slice none 0 0) /\ Blk3 wr (w.heap.size + 1) (.int .i64 48) (.string ⟨#[]⟩) kv /\ GrowK wr (w.heap.size + 2) n kv (ks.take k) /\ Below w.heap.size w wr /\ w.heap.size + 2 <= wr.heap.size)) (fun iv _ => l - (intOf iv).toNat)
 case atStart => exact ⟨0, Nat.zero_le _, rfl, _, H3.out.2.2.1, H3.out.2.2.2, GrowK.nil _ _ _, H3.out.1, by rw [H3.out.2.1]; exact Nat.le_refl _⟩
 case round =>
  obtain ⟨k, hk, rfl, HR⟩ := hrel
  obtain ⟨kv, hr1, hr2, hrG, hrB, hrs⟩ := HR.out
  have HK : Hid (Blk3 wr w.heap.size (.int .i64 0) (.string ⟨#[]⟩) (.slice none 0 0) /\ Blk3 wr (w.heap.size + 1) (.int .i64 48) (.string ⟨#[]⟩) kv /\ GrowK wr (w.heap.size + 2) n kv (ks.take k) /\ Below w.heap.size w wr /\ w.heap.size + 2 <= wr.heap.size) := ⟨hr1, hr2, hrG, hrB, hrs⟩
  clear HR hr1 hr2 hrG hrB hrs H3
  by_cases hlt : k < l
  ·have hlti : (k : Int) < (l : Int) := by omega
   have hk0 : (0 : Int) <= (k : Int) := by omega
   have hj0 : k < ls.length := by rw [HX.out.2.1]; exact hlt
   have hj1 : k < ks.length := by rw [HK0.out.2]; exact hlt
   obtain ⟨g1, hax, hg1, hc1⟩ := HX.out.1 k hj0
   have c10 : wr.cell? ⟨g1, k, none⟩ = some (.string (ls.getD k ByteArray.empty)) := (HK.out.2.2.2.1.cell (p := ⟨g1, k, none⟩) hg1).trans hc1
   have hm : (ls.getD k ByteArray.empty) ∈ ls := by rw [List.getD_eq_getElem?_getD, List.getElem?_eq_getElem hj0]; exact List.getElem_mem _
   obtain ⟨x, hxe⟩ := zE ((ls.getD k ByteArray.empty))
   rw [hxe] at c10 hm
   have hkx : ks[k] = bytJ x := by
    rw [<- hxe]
    have h := HK0.out.1
    subst h
    simp [List.getD, hj0]
   have E := bytes_any x wr.drew
   obtain ⟨s3, hs3⟩ : ∃ s3 : ByteArray, x = s3 := ⟨_, rfl⟩
   have HT : Hid (It.tag ks[k] = 4 /\ (⟨(It.text ks[k]).toArray⟩ : ByteArray) = s3 /\ It.kids ks[k] = []) := by
    rw [hkx]
    exact ⟨rfl, by rw [<- hs3]; show (⟨x.data.toList.toArray⟩ : ByteArray) = x; simp, rfl⟩
   have E3 : Calls Try.prog 66 #[.string x] wr.drew fun e w' => e = .returned (.agg #[.int .i64 4, .string s3, .slice none 0 0]) /\ Below wr.heap.size wr w' := by
    refine E.mono ?_
    rintro e w' ⟨rfl, hb⟩
    exact ⟨by rw [<- hs3], (Below.refl wr.heap.size wr).drew.trans hb⟩
   obtain ⟨⟨_, _, y2⟩, fy⟩ := cell_in HK.out.2.1
   have htl : (ks.take k).length = k := by rw [List.length_take]; omega
   have HG1 : Hid (g1 < w.heap.size) := hg1
   have HNE : Hid (∀ q, q < w.heap.size + 2 -> some q ≠ kv.ownBlock) := fun q hq e => by have := (HK.out.2.2.1.lt q e.symm).1; omega
   subst hax
   clear hc1 hg1 hxe hkx hm E hs3
   go_wp2_with fail
   have hcs : wr.cell? ⟨w.heap.size + 1, 2, none⟩ = some kv /\ wr.cell? ⟨g1, k, none⟩ = some (.string x) := ⟨y2, c10⟩
   go_region_law (first
    | (refine step_call rfl 66 _ _ rfl #[.string x] rfl (by kernel_rfl) ?_; refine E3.mono ?_; rintro e w3 ⟨rfl, hb3⟩; have ho3 : OwnK w3 wr.heap.size n (.slice none 0 0) (It.kids ks[k]) [] := (by rw [HT.out.2.2]; exact own_none _ _ _); have hc3 := both_below hcs (by have := HK.out.2.2.2.2; omega) (by have := HG1.out; have := HK.out.2.2.2.1.size; omega) hb3; have hy3 := hc3.1; have hc4 := fun o => both_below hcs (by have := HK.out.2.2.2.2; omega) (by have := HG1.out; have := HK.out.2.2.2.1.size; omega) (hb3.alloc hb3.size o); have hy4 := fun o => (hc4 o).1; clear hc3; dsimp only)
    | (refine step_append_item0 rfl _ _ rfl (w.heap.size + 2) n kv (ks.take k) ks[k] 4 s3 (.slice none 0 0) [] HT.out.1 HT.out.2.1 rfl _ rfl rfl HK.out.2.2.1 hb3 ho3 HK.out.2.2.2.2 (by omega) ?_; intro g cap w6 hG6 hgrow6; have hy6 := (both_grown (hc4 _) hgrow6 (HNE.out _ (by omega)) (HNE.out _ (by have := HG1.out; omega))).1; have fz6 := (cell_in ((HK.out.2.1.below (hb3.alloc hb3.size _)).grown hgrow6 (HNE.out _ (by omega)))).2))
   all_goals (
    have H6 : Hid (Blk3 w6 w.heap.size (.int .i64 0) (.string ⟨#[]⟩) (.slice none 0 0) /\ Blk3 w6 (w.heap.size + 1) (.int .i64 48) (.string ⟨#[]⟩) kv /\ GrowK w6 (w.heap.size + 2) n (.slice (some ⟨g, 0, none⟩) (k + 1) cap) (ks.take (k + 1)) /\ Below w.heap.size w w6 /\ w.heap.size + 2 <= w6.heap.size) := by
     have hb5 := hb3.alloc hb3.size (Obj.cells #[Value.int IntKind.i64 4, Value.string s3, Value.slice none 0 0] 67)
     have hbw := HK.out.2.2.2.1.trans (hb5.mono HK.out.2.2.2.1.size)
     have e := List.take_append_getElem hj1
     rw [htl, e] at hG6
     exact ⟨(HK.out.1.below hb5).grown hgrow6 (HNE.out _ (by omega)), (HK.out.2.1.below hb5).grown hgrow6 (HNE.out _ (by omega)), hG6, hbw.grown hgrow6 hbw.size (fun q hq => by have := (HK.out.2.2.1.lt q hq).1; omega), Nat.le_trans HK.out.2.2.2.2 (Nat.le_trans hb5.size hgrow6.size)⟩
    clear hG6 hgrow6 hy6 fz6 hy3 hc4 hy4 ho3 hb3 hcs y2 c10 E3
    go_wp2_with fail
    refine ⟨⟨k + 1, by omega, by go_num, .slice (some ⟨g, 0, none⟩) (k + 1) cap, ?_, ?_, ?_, ?_, ?_⟩, by simp [intOf]; omega⟩
    ·exact H6.out.1.other (by show w.heap.size ≠ w.heap.size + 1; omega) _
    ·exact H6.out.2.1.set _
    ·exact H6.out.2.2.1.out fun b hb => heap_setCell_other _ _ _ _ (by show b ≠ w.heap.size + 1; omega)
    ·exact H6.out.2.2.2.1.setCell (p := ⟨w.heap.size + 1, 2, none⟩) (by show w.heap.size <= w.heap.size + 1; omega) _
    ·exact Nat.le_trans H6.out.2.2.2.2 (((Below.refl 0 w6).setCell (p := ⟨w.heap.size + 1, 2, none⟩) (Nat.zero_le _) _).size))
  ·have hlti : ¬ (k : Int) < (l : Int) := by omega
   obtain ⟨⟨q0, q1, q2⟩, _⟩ := cell_in HK.out.2.1
   obtain ⟨⟨r0, r1, r2⟩, rf⟩ := cell_in HK.out.1
   have HE : Hid (∃ fp, OwnK wr (w.heap.size + 2) (n + 1) kv ks fp) := by
    have h := HK.out.2.2.1
    rw [List.take_of_length_le (by have := HK0.out.2; omega)] at h
    exact h.own
   obtain ⟨axe, cape, hkv⟩ := HK.out.2.2.1.shape
   obtain ⟨le, hle⟩ := zE ((ks.take k).length)
   rw [hle] at hkv
   subst hkv
   clear hle
   go_wp2_with fail
   refine bodyPost_ret (v := .agg #[.int .i64 48, .string ⟨#[]⟩, .slice axe le cape]) (by simp [results, Try.results48, go_sem, r0, r1, r2]; try rfl) rfl ?_
   obtain ⟨fp, hfp⟩ := HE.out
   refine ⟨.slice axe le cape, fp, rfl, ?_, ?_⟩
   ·refine OwnK.base (base := w.heap.size + 2) (by omega) (hfp.same fun b hb => ?_)
    have h1 := (OwnK.lt hfp b hb).1
    rw [heap_setCell_other _ _ _ _ (by show b ≠ w.heap.size; omega), heap_setCell_other _ _ _ _ (by show b ≠ w.heap.size; omega), heap_setCell_other _ _ _ _ (by show b ≠ w.heap.size; omega)]
   ·exact ((HK.out.2.2.2.1.setCell (p := ⟨w.heap.size, 0, none⟩) (Nat.le_refl _) _).setCell (p := ⟨w.heap.size, 1, none⟩) (Nat.le_refl _) _).setCell (p := ⟨w.heap.size, 2, none⟩) (Nat.le_refl _) _
def RowsK (W : World) (b n : Nat) : List (It (n + 1)) -> List Value -> List (List Nat) -> Prop
 | [], [], [] => True
 | x :: ks, v :: kvs, fp :: fps => OwnK W b n v (It.kids x) fp /\ RowsK W b n ks kvs fps
 | _, _, _ => False
theorem RowsK.each {W : World} {b n : Nat} : ∀ {ks : List (It (n + 1))} {kvs : List Value} {fps : List (List Nat)}, RowsK W b n ks kvs fps -> ks.length = kvs.length /\ ks.length = fps.length /\ ∀ j (h1 : j < ks.length) (h2 : j < kvs.length) (h3 : j < fps.length), OwnK W b n kvs[j] (It.kids ks[j]) fps[j]
 | [], [], [], _ => ⟨rfl, rfl, fun j h => absurd h (Nat.not_lt_zero _)⟩
 | [], _ :: _, _, h => h.elim
 | [], [], _ :: _, h => h.elim
 | _ :: _, [], _, h => h.elim
 | _ :: _, _ :: _, [], h => h.elim
 | x :: ks, v :: kvs, fp :: fps, ⟨h, r⟩ => by
  obtain ⟨h1, h2, h3⟩ := RowsK.each r
  refine ⟨by simp [h1], by simp [h2], fun j a b c => ?_⟩
  cases j with
  | zero => exact h
  | succ j => exact h3 j (by simpa using a) (by simpa using b) (by simpa using c)
theorem RowsK.grow {W W' : World} {b n cap : Nat} {ks : List (It (n + 1))} {kvs : List Value} {fps : List (List Nat)} (h : RowsK W b n ks kvs fps) (hb : b <= W.heap.size) (hnd : fps.flatten.Nodup) (hl : ks.length <= 1000) (hc : cap = ks.length)
  (hW : W' = W.alloc (.cells (cellsK ks kvs).toArray 67)) : GrowK W' b n (.slice (some ⟨W.heap.size, 0, none⟩) cap cap) ks := by
 subst hc
 obtain ⟨h1, h2, h3⟩ := h.each
 have hbel : Below W.heap.size W W' := by rw [hW]; exact (Below.refl _ _).alloc (Nat.le_refl _) _
 refine ⟨kvs, fps, h1, h2, ?_, hnd, ?_, fun j a c d => ?_⟩
 ·rw [hW]
  exact ⟨by rw [cellsK_len h1], .inr ⟨W.heap.size, ks.length, (cellsK ks kvs).toArray, rfl, hb, heap_alloc_new W _, Nat.le_refl _, by unfold maxLen; omega, by rw [List.size_toArray, cellsK_len h1], List.take_of_length_le (by rw [cellsK_len h1]; exact Nat.le_refl _)⟩⟩
 ·intro g hg hm
  simp only [Value.ownBlock, Option.some.injEq] at hg
  obtain ⟨l, m1, m2⟩ := List.mem_flatten.1 hm
  obtain ⟨j, hj, rfl⟩ := List.getElem_of_mem m1
  have := (OwnK.lt (h3 j (by omega) (by omega) hj) g m2).2
  omega
 ·exact (h3 j a c d).below hbel (fun x hx => (OwnK.lt (h3 j a c d) x hx).2)
theorem to_lst {w w' : World} {ks : List (It 1)} {e : Ending} (h : ToIt w 1 (lstJ ks) e w') : ∃ (a : Option Addr) (l cx : Nat) (fp : List Nat), e = .returned (.agg #[.int .i64 48, .string ⟨#[]⟩, .slice a l cx]) /\ OwnK w' w.heap.size 1 (.slice a l cx) (It.kids (lstJ ks)) fp /\ Below w.heap.size w w' := by
 obtain ⟨k, fp, rfl, ho, hb⟩ := h
 obtain ⟨a, cx, rfl⟩ := ho.shape
 exact ⟨a, _, cx, fp, rfl, ho, hb⟩
end Go.Proofs.Ytbiiihjohbnodaa
