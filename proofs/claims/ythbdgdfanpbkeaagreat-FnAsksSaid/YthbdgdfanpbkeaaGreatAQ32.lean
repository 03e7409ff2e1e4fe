/-
  Texts of the proof.
-/
import Derived.Deep.RegionHeld3
import Derived.Test.YthbdgdfanpbkeaaGreatAQ31
set_option maxRecDepth 100000
set_option maxHeartbeats 25600000
namespace Go.Proofs.YthbdgdfanpbkeaaGreat
open Go.RowKit
set_option linter.unusedVariables false
def tgOk (l : List ByteArray) : Bool := decide (∀ j, j < l.length -> (l.getD j ByteArray.empty).size <= 400)
theorem tg_no {l : List ByteArray} {k : Nat} (h : k < l.length) (h2 : ¬ (l.getD k ByteArray.empty).size <= 400) : tgOk l = false := decide_eq_false fun q => h2 (q k h)
theorem tg_yes {l : List ByteArray} (h : ∀ j, j < l.length -> (l.getD j ByteArray.empty).size <= 400) : tgOk l = true := decide_eq_true h
def txOk (l : List ByteArray) (m : Nat) : Bool := tgOk l && decide (l.length <= m)
def IxP (b : Bool) (w : World) (e : Ending) (w' : World) : Prop := ∃ n : Int, e = .returned (.int .i64 n) /\ decide (0 <= n) = b /\ Below w.heap.size w w'
theorem tooLong_any (x : ByteArray) (w : World) (hx : x.size <= 1000000000) :
  Calls Tryz.prog 77 #[.string x] w fun e w' => e = .returned (.bool (decide (400 < x.size))) /\ Below w.heap.size w w' := by
 by_cases h : 400 < x.size
 ·have hi : (400 : Int) < (x.size : Int) := by omega
  have HF : Hid (decide (400 < x.size) = true) := decide_eq_true h
  clear h
  go_enter Tryz.func77, Tryz.ntmps77
  go_wp2_with fail
  go_ret
  exact ⟨by rw [HF.out]; rfl, Below.refl _ _⟩
 ·have hi : ¬ (400 : Int) < (x.size : Int) := by omega
  have HF : Hid (decide (400 < x.size) = false) := decide_eq_false h
  clear h
  go_enter Tryz.func77, Tryz.ntmps77
  go_wp2_with fail
  go_ret
  exact ⟨by rw [HF.out]; rfl, Below.refl _ _⟩
theorem indexLong_any (l : List ByteArray) (v : Value) (w : World) (hz : totT l <= 1000000000) (h1 : TxtAt w v l) :
  Calls Tryz.prog 91 #[v, .func (.func 77) #[] #[]] w fun e w' => IxP (!tgOk l) w e w' := by
 obtain ⟨pa, pc, rfl, hcell⟩ := h1
 have hll := Nat.le_trans (tot_len l) hz
 obtain ⟨lp, hlp⟩ := zE (l.length)
 have HT : Hid ((∀ j, j < l.length -> ∃ g, pa = some ⟨g, 0, none⟩ /\ g < w.heap.size /\ w.cell? ⟨g, j, none⟩ = some (.string (l.getD j ByteArray.empty))) /\ l.length = lp /\ totT l <= 1000000000) := ⟨hcell, hlp, hz⟩
 rw [hlp] at hll |-
 clear hcell hlp hz
 go_enter Tryz.func91, Tryz.ntmps91
 go_wp2_with fail
 go_loopw [8] (fun iv wr => ∃ k : Nat, k <= lp /\ iv = .int .i64 k /\ Hid (∀ j, j < k -> (l.getD j ByteArray.empty).size <= 400) /\ Hid (Below w.heap.size w wr)) (fun iv _ => lp - (intOf iv).toNat)
 case atStart => exact ⟨0, Nat.zero_le _, rfl, fun j hj => absurd hj (Nat.not_lt_zero _), Below.refl _ _⟩
 case round =>
  obtain ⟨k, hk, rfl, HL, G1⟩ := hrel
  by_cases hlt : k < lp
  ·obtain ⟨g, hpg, hgw, hcs⟩ := HT.out.1 k (by rw [HT.out.2.1]; exact hlt)
   have hc1 : wr.cell? ⟨g, k, none⟩ = some (.string (l.getD k ByteArray.empty)) := (G1.out.cell (p := ⟨g, k, none⟩) hgw).trans hcs
   have hsx : (l.getD k ByteArray.empty).size <= 1000000000 := by
    have hm : l.getD k ByteArray.empty ∈ l := by rw [List.getD_eq_getElem?_getD, List.getElem?_eq_getElem (by rw [HT.out.2.1]; exact hlt)]; exact List.getElem_mem _
    exact Nat.le_trans (tot_mem l _ hm) HT.out.2.2
   have hki : (k : Int) < (lp : Int) := by omega
   have hk0 : (0 : Int) <= (k : Int) := by omega
   obtain ⟨x, hx⟩ := zE (l.getD k ByteArray.empty)
   rw [hx] at hc1 hsx
   have HX : Hid (l.getD k ByteArray.empty = x) := hx
   subst hpg
   clear hcs hx hgw
   have E := tooLong_any x wr hsx
   by_cases h4 : 400 < x.size
   ·rw [decide_eq_true h4] at E
    have HF : Hid (tgOk l = false) := tg_no (k := k) (by rw [HT.out.2.1]; exact hlt) (by rw [HX.out]; omega)
    clear h4 hsx
    go_wp2_with fail
    refine E.mono ?_
    rintro e w2 ⟨rfl, hb⟩
    have G2 : Hid (Below w.heap.size w w2) := G1.out.trans (hb.mono G1.out.size)
    clear E hb G1
    go_wp2_with fail
    go_ret
    exact ⟨_, rfl, by rw [HF.out]; exact decide_eq_true hk0, G2.out⟩
   ·rw [decide_eq_false h4] at E
    have HN : Hid (∀ j, j < k + 1 -> (l.getD j ByteArray.empty).size <= 400) := fun j hj => by
     rcases Nat.lt_or_ge j k with h | h
     ·exact HL.out j h
     ·have : j = k := by omega
      subst this
      rw [HX.out]; omega
    clear HL h4 hsx
    go_wp2_with fail
    refine E.mono ?_
    rintro e w2 ⟨rfl, hb⟩
    have G2 : Hid (Below w.heap.size w w2) := G1.out.trans (hb.mono G1.out.size)
    clear E hb G1
    go_wp2_with fail
    go_roundw
    case rel => exact ⟨k + 1, by omega, by go_num, HN, G2⟩
    case measure => simp [intOf]; omega
  ·have hkl : lp = k := by omega
   subst hkl
   have HF : Hid (tgOk l = true) := tg_yes (fun j hj => HL.out j (by rw [<- HT.out.2.1]; exact hj))
   go_wp2_with fail
   go_ret
   exact ⟨_, rfl, by rw [HF.out]; rfl, G1.out⟩
theorem containsLong_any (l : List ByteArray) (v : Value) (w : World) (hz : totT l <= 1000000000) (h1 : TxtAt w v l) :
  Calls Tryz.prog 78 #[v, .func (.func 77) #[] #[]] w fun e w' => e = .returned (.bool (!tgOk l)) /\ Below w.heap.size w w' := by
 have E := indexLong_any l v w hz h1
 obtain ⟨pa, pc, rfl, -⟩ := h1
 obtain ⟨B, hB⟩ := zE ((!tgOk l))
 rw [hB] at E |-
 clear hB hz
 go_enter Tryz.func78, Tryz.ntmps78
 go_wp2_with fail
 refine E.mono ?_
 rintro e w2 ⟨n, rfl, hn, hb⟩
 have G2 : Hid (Below w.heap.size w w2) := hb
 clear E hb
 have HN : Hid (decide (0 <= n) = B) := hn
 clear hn
 go_wp2_with fail
 go_ret
 exact ⟨by show Ending.returned (.bool (decide (0 <= n))) = _; rw [HN.out], G2.out⟩
theorem textsFit_any (l : List ByteArray) (v : Value) (m : Nat) (w : World) (hz : totT l <= 1000000000) (h1 : TxtAt w v l) :
  Calls Tryz.prog 60 #[.int .i64 (m : Int), v] w fun e w' => e = .returned (.bool (txOk l m)) /\ Below w.heap.size w w' := by
 have E := containsLong_any l v w hz h1
 have hll := Nat.le_trans (tot_len l) hz
 obtain ⟨pa, pc, rfl, -⟩ := h1
 obtain ⟨lp, hlp⟩ := zE (l.length)
 obtain ⟨B, hB⟩ := zE (tgOk l)
 have HT : Hid (txOk l m = (B && decide (lp <= m))) := by show txOk l m = _; unfold txOk; rw [hB, hlp]
 rw [hlp] at E hll |-
 rw [hB] at E
 clear hB hz hlp
 by_cases hm : lp <= m
 ·have hmi : (lp : Int) <= (m : Int) := by omega
  have HF : Hid (txOk l m = B) := by show txOk l m = B; rw [HT.out, decide_eq_true hm]; simp
  go_enter Tryz.func60, Tryz.ntmps60
  go_wp2_with fail
  refine E.mono ?_
  rintro e w2 ⟨rfl, hb⟩
  have G2 : Hid (Below w.heap.size w w2) := hb
  clear E hb HT
  cases B with
  | false =>
   go_wp2_with fail
   go_ret
   exact ⟨by rw [HF.out]; rfl, G2.out⟩
  | true =>
   go_wp2_with fail
   go_ret
   exact ⟨by rw [HF.out]; rfl, G2.out⟩
 ·have hmi : ¬ (lp : Int) <= (m : Int) := by omega
  have HF : Hid (txOk l m = false) := by show txOk l m = false; rw [HT.out, decide_eq_false hm]; simp
  go_enter Tryz.func60, Tryz.ntmps60
  go_wp2_with fail
  go_ret
  exact ⟨by rw [HF.out]; rfl, Below.refl _ _⟩
def askOk (c : Ak) : Bool := (tgOk c.tg && inB c.tg.length 1 3) && (inB c.plan 0 99 && (inB c.want 0 3 && (inB c.nonce 0 1000000000 && inB c.time 0 9999)))
theorem specAskOk_any (c : Ak) (v : Value) (w : World) (hz : wtAk c <= 1000000000) (ha : AkAt w v c) :
  Calls Tryz.prog 12 #[v] w fun e w' => e = .returned (.bool (askOk c)) /\ Below w.heap.size w w' := by
 obtain ⟨pv, rfl, h1⟩ := ha
 obtain ⟨pa, pc, hpa⟩ : ∃ ao cap, pv = .slice ao c.tg.length cap := by obtain ⟨ao, cap, h, _⟩ := h1; exact ⟨ao, cap, h⟩
 have hll := Nat.le_trans (tot_len c.tg) hz
 obtain ⟨lp, hlp⟩ := zE (c.tg.length)
 rw [hlp] at hpa hll
 subst hpa
 obtain ⟨B1, hB1⟩ := zE (inB c.tg.length 1 3)
 have E1 : Hid (∀ W, Below w.heap.size w W -> Calls Tryz.prog 32 #[.int .i64 (lp : Int), .int .i64 1, .int .i64 3] W fun e w' => e = .returned (.bool B1) /\ Below W.heap.size W w') := fun W hb => by rw [<- hB1]; exact by rw [hlp]; exact in_any _ _ _ W
 obtain ⟨B2, hB2⟩ := zE (inB c.plan 0 99)
 have E2 : Hid (∀ W, Below w.heap.size w W -> Calls Tryz.prog 32 #[.int .i64 c.plan, .int .i64 0, .int .i64 99] W fun e w' => e = .returned (.bool B2) /\ Below W.heap.size W w') := fun W hb => by rw [<- hB2]; exact in_any _ _ _ W
 obtain ⟨B3, hB3⟩ := zE (inB c.want 0 3)
 have E3 : Hid (∀ W, Below w.heap.size w W -> Calls Tryz.prog 32 #[.int .i64 c.want, .int .i64 0, .int .i64 3] W fun e w' => e = .returned (.bool B3) /\ Below W.heap.size W w') := fun W hb => by rw [<- hB3]; exact in_any _ _ _ W
 obtain ⟨B4, hB4⟩ := zE (inB c.nonce 0 1000000000)
 have E4 : Hid (∀ W, Below w.heap.size w W -> Calls Tryz.prog 32 #[.int .i64 c.nonce, .int .i64 0, .int .i64 1000000000] W fun e w' => e = .returned (.bool B4) /\ Below W.heap.size W w') := fun W hb => by rw [<- hB4]; exact in_any _ _ _ W
 obtain ⟨B5, hB5⟩ := zE (inB c.time 0 9999)
 have E5 : Hid (∀ W, Below w.heap.size w W -> Calls Tryz.prog 33 #[.int .i64 c.time] W fun e w' => e = .returned (.bool B5) /\ Below W.heap.size W w') := fun W hb => by rw [<- hB5]; exact num_any _ W
 have HC0 : Hid (askOk c = ((tgOk c.tg && B1) && (B2 && (B3 && (B4 && B5))))) := by show askOk c = _; unfold askOk; rw [hB1, hB2, hB3, hB4, hB5]
 have HT : Hid (TxtAt w (.slice pa lp pc) c.tg /\ c.tg.length = lp) := ⟨h1, hlp⟩
 have HZ : Hid (wtAk c <= 1000000000) := hz
 clear hB1 hB2 hB3 hB4 hB5 h1 hlp hz
 unfold akV
 go_enter Tryz.func12, Tryz.ntmps12
 go_wp2_with fail
 obtain ⟨V0, hV⟩ : ∃ V, V = w.alloc (Obj.cells #[.slice pa lp pc, .int .i64 c.plan, .int .i64 c.want, .int .i64 c.nonce, .int .i64 c.time, .bool c.cac] 26) := ⟨_, rfl⟩
 rw [<- hV]
 have G0 : Hid (Below w.heap.size w V0 /\ Blk V0 w.heap.size 26 #[.slice pa lp pc, .int .i64 c.plan, .int .i64 c.want, .int .i64 c.nonce, .int .i64 c.time, .bool c.cac]) := by rw [hV]; exact ⟨(Below.refl _ _).alloc (Nat.le_refl _) _, Blk.new w _ _⟩
 clear hV
 go_loopw [3] (fun iv wr => ∃ k : Nat, k <= lp /\ iv = .int .i64 k /\ Hid (∀ j, j < k -> (c.tg.getD j ByteArray.empty).size <= 400) /\ Hid (Below w.heap.size w wr /\ Blk wr w.heap.size 26 #[.slice pa lp pc, .int .i64 c.plan, .int .i64 c.want, .int .i64 c.nonce, .int .i64 c.time, .bool c.cac])) (fun iv _ => lp - (intOf iv).toNat)
 case atStart => exact ⟨0, Nat.zero_le _, rfl, fun j hj => absurd hj (Nat.not_lt_zero _), G0⟩
 case round =>
  obtain ⟨k, hk, rfl, HL, G1⟩ := hrel
  clear G0
  have d0 : wr.cell? ⟨w.heap.size, 0, none⟩ = some (.slice pa lp pc) := G1.out.2.cell 0
  by_cases hlt : k < lp
  ·obtain ⟨ao, cap, he, hcell⟩ := HT.out.1
   obtain ⟨g, hg, hgw, hcs⟩ := hcell k (by rw [HT.out.2]; exact hlt)
   injection he with e1 e2 e3
   have hpg : pa = some ⟨g, 0, none⟩ := by rw [e1]; exact hg
   have hc1 : wr.cell? ⟨g, k, none⟩ = some (.string (c.tg.getD k ByteArray.empty)) := (G1.out.1.cell (p := ⟨g, k, none⟩) hgw).trans hcs
   have hsx : (c.tg.getD k ByteArray.empty).size <= 1000000000 := by
    have hm : c.tg.getD k ByteArray.empty ∈ c.tg := by rw [List.getD_eq_getElem?_getD, List.getElem?_eq_getElem (by rw [HT.out.2]; exact hlt)]; exact List.getElem_mem _
    exact Nat.le_trans (tot_mem c.tg _ hm) HZ.out
   have hki : (k : Int) < (lp : Int) := by omega
   have hk0 : (0 : Int) <= (k : Int) := by omega
   obtain ⟨x, hx⟩ := zE (c.tg.getD k ByteArray.empty)
   rw [hx] at hc1 hsx
   have HX : Hid (c.tg.getD k ByteArray.empty = x) := hx
   subst hpg
   clear hcell hcs e1 e2 e3 hg hx hgw
   by_cases h4 : x.size <= 400
   ·have h4i : ¬ (400 : Int) < (x.size : Int) := by omega
    have HN : Hid (∀ j, j < k + 1 -> (c.tg.getD j ByteArray.empty).size <= 400) := fun j hj => by
     rcases Nat.lt_or_ge j k with h | h
     ·exact HL.out j h
     ·have : j = k := by omega
      subst this
      rw [HX.out]; exact h4
    clear HL
    go_wp2_with fail
    go_roundw
    case rel => exact ⟨k + 1, by omega, by go_num, HN, G1⟩
    case measure => simp [intOf]; omega
   ·have h4i : (400 : Int) < (x.size : Int) := by omega
    have HF : Hid (askOk c = false) := by rw [HC0.out, tg_no (k := k) (by rw [HT.out.2]; exact hlt) (by rw [HX.out]; exact h4)]; rfl
    go_wp2_with fail
    go_ret
    exact ⟨by rw [HF.out]; rfl, G1.out.1⟩
  ·have hkl : lp = k := by omega
   subst hkl
   have HC : Hid (askOk c = (B1 && (B2 && (B3 && (B4 && B5))))) := by rw [HC0.out, tg_yes (fun j hj => HL.out j (by rw [<- HT.out.2]; exact hj))]; rfl
   clear HC0 HL
   go_wp2_with fail
   refine (E1.out wr G1.out.1).mono ?_
   rintro e V2 ⟨rfl, hb⟩
   have G2 : Hid (Below w.heap.size w V2 /\ Blk V2 w.heap.size 26 #[.slice pa lp pc, .int .i64 c.plan, .int .i64 c.want, .int .i64 c.nonce, .int .i64 c.time, .bool c.cac]) := ⟨G1.out.1.trans (hb.mono G1.out.1.size), G1.out.2.below hb G1.out.2.lt⟩
   clear hb E1 G1
   have d20 : V2.cell? ⟨w.heap.size, 0, none⟩ = some (.slice pa lp pc) := G2.out.2.cell 0
   have d21 : V2.cell? ⟨w.heap.size, 1, none⟩ = some (.int .i64 c.plan) := G2.out.2.cell 1
   have d22 : V2.cell? ⟨w.heap.size, 2, none⟩ = some (.int .i64 c.want) := G2.out.2.cell 2
   have d23 : V2.cell? ⟨w.heap.size, 3, none⟩ = some (.int .i64 c.nonce) := G2.out.2.cell 3
   have d24 : V2.cell? ⟨w.heap.size, 4, none⟩ = some (.int .i64 c.time) := G2.out.2.cell 4
   have d25 : V2.cell? ⟨w.heap.size, 5, none⟩ = some (.bool c.cac) := G2.out.2.cell 5
   cases B1 with
   | false =>
    go_wp2_with fail
    go_ret
    exact ⟨by rw [HC.out]; rfl, G2.out.1⟩
   | true =>
    go_wp2_with fail
    refine (E2.out V2 G2.out.1).mono ?_
    rintro e V3 ⟨rfl, hb⟩
    have G3 : Hid (Below w.heap.size w V3 /\ Blk V3 w.heap.size 26 #[.slice pa lp pc, .int .i64 c.plan, .int .i64 c.want, .int .i64 c.nonce, .int .i64 c.time, .bool c.cac]) := ⟨G2.out.1.trans (hb.mono G2.out.1.size), G2.out.2.below hb G2.out.2.lt⟩
    clear hb E2 G2
    have d30 : V3.cell? ⟨w.heap.size, 0, none⟩ = some (.slice pa lp pc) := G3.out.2.cell 0
    have d31 : V3.cell? ⟨w.heap.size, 1, none⟩ = some (.int .i64 c.plan) := G3.out.2.cell 1
    have d32 : V3.cell? ⟨w.heap.size, 2, none⟩ = some (.int .i64 c.want) := G3.out.2.cell 2
    have d33 : V3.cell? ⟨w.heap.size, 3, none⟩ = some (.int .i64 c.nonce) := G3.out.2.cell 3
    have d34 : V3.cell? ⟨w.heap.size, 4, none⟩ = some (.int .i64 c.time) := G3.out.2.cell 4
    have d35 : V3.cell? ⟨w.heap.size, 5, none⟩ = some (.bool c.cac) := G3.out.2.cell 5
    cases B2 with
    | false =>
     go_wp2_with fail
     go_ret
     exact ⟨by rw [HC.out]; rfl, G3.out.1⟩
    | true =>
     go_wp2_with fail
     refine (E3.out V3 G3.out.1).mono ?_
     rintro e V4 ⟨rfl, hb⟩
     have G4 : Hid (Below w.heap.size w V4 /\ Blk V4 w.heap.size 26 #[.slice pa lp pc, .int .i64 c.plan, .int .i64 c.want, .int .i64 c.nonce, .int .i64 c.time, .bool c.cac]) := ⟨G3.out.1.trans (hb.mono G3.out.1.size), G3.out.2.below hb G3.out.2.lt⟩
     clear hb E3 G3
     have d40 : V4.cell? ⟨w.heap.size, 0, none⟩ = some (.slice pa lp pc) := G4.out.2.cell 0
     have d41 : V4.cell? ⟨w.heap.size, 1, none⟩ = some (.int .i64 c.plan) := G4.out.2.cell 1
     have d42 : V4.cell? ⟨w.heap.size, 2, none⟩ = some (.int .i64 c.want) := G4.out.2.cell 2
     have d43 : V4.cell? ⟨w.heap.size, 3, none⟩ = some (.int .i64 c.nonce) := G4.out.2.cell 3
     have d44 : V4.cell? ⟨w.heap.size, 4, none⟩ = some (.int .i64 c.time) := G4.out.2.cell 4
     have d45 : V4.cell? ⟨w.heap.size, 5, none⟩ = some (.bool c.cac) := G4.out.2.cell 5
     cases B3 with
     | false =>
      go_wp2_with fail
      go_ret
      exact ⟨by rw [HC.out]; rfl, G4.out.1⟩
     | true =>
      go_wp2_with fail
      refine (E4.out V4 G4.out.1).mono ?_
      rintro e V5 ⟨rfl, hb⟩
      have G5 : Hid (Below w.heap.size w V5 /\ Blk V5 w.heap.size 26 #[.slice pa lp pc, .int .i64 c.plan, .int .i64 c.want, .int .i64 c.nonce, .int .i64 c.time, .bool c.cac]) := ⟨G4.out.1.trans (hb.mono G4.out.1.size), G4.out.2.below hb G4.out.2.lt⟩
      clear hb E4 G4
      have d50 : V5.cell? ⟨w.heap.size, 0, none⟩ = some (.slice pa lp pc) := G5.out.2.cell 0
      have d51 : V5.cell? ⟨w.heap.size, 1, none⟩ = some (.int .i64 c.plan) := G5.out.2.cell 1
      have d52 : V5.cell? ⟨w.heap.size, 2, none⟩ = some (.int .i64 c.want) := G5.out.2.cell 2
      have d53 : V5.cell? ⟨w.heap.size, 3, none⟩ = some (.int .i64 c.nonce) := G5.out.2.cell 3
      have d54 : V5.cell? ⟨w.heap.size, 4, none⟩ = some (.int .i64 c.time) := G5.out.2.cell 4
      have d55 : V5.cell? ⟨w.heap.size, 5, none⟩ = some (.bool c.cac) := G5.out.2.cell 5
      cases B4 with
      | false =>
       go_wp2_with fail
       go_ret
       exact ⟨by rw [HC.out]; rfl, G5.out.1⟩
      | true =>
       go_wp2_with fail
       refine (E5.out V5 G5.out.1).mono ?_
       rintro e V6 ⟨rfl, hb⟩
       have G6 : Hid (Below w.heap.size w V6 /\ Blk V6 w.heap.size 26 #[.slice pa lp pc, .int .i64 c.plan, .int .i64 c.want, .int .i64 c.nonce, .int .i64 c.time, .bool c.cac]) := ⟨G5.out.1.trans (hb.mono G5.out.1.size), G5.out.2.below hb G5.out.2.lt⟩
       clear hb E5 G5
       have d60 : V6.cell? ⟨w.heap.size, 0, none⟩ = some (.slice pa lp pc) := G6.out.2.cell 0
       have d61 : V6.cell? ⟨w.heap.size, 1, none⟩ = some (.int .i64 c.plan) := G6.out.2.cell 1
       have d62 : V6.cell? ⟨w.heap.size, 2, none⟩ = some (.int .i64 c.want) := G6.out.2.cell 2
       have d63 : V6.cell? ⟨w.heap.size, 3, none⟩ = some (.int .i64 c.nonce) := G6.out.2.cell 3
       have d64 : V6.cell? ⟨w.heap.size, 4, none⟩ = some (.int .i64 c.time) := G6.out.2.cell 4
       have d65 : V6.cell? ⟨w.heap.size, 5, none⟩ = some (.bool c.cac) := G6.out.2.cell 5
       go_wp2_with fail
       go_ret
       exact ⟨by rw [HC.out]; rfl, G6.out.1⟩
theorem targetsRight_any (l : List ByteArray) (v : Value) (w : World) (hz : totT l <= 1000000000) (h1 : TxtAt w v l) :
  Calls Tryz.prog 30 #[v] w fun e w' => e = .returned (.bool (tgOk l && inB l.length 1 3)) /\ Below w.heap.size w w' := by
 have E := textsFit_any l v 3 w hz h1
 have hll := Nat.le_trans (tot_len l) hz
 obtain ⟨pa, pc, rfl, -⟩ := h1
 obtain ⟨lp, hlp⟩ := zE (l.length)
 obtain ⟨R, hR⟩ := zE ((tgOk l && inB l.length 1 3))
 obtain ⟨B, hB⟩ := zE (txOk l 3)
 have HR : Hid ((tgOk l && inB l.length 1 3) = R) := hR
 have HB : Hid (txOk l 3 = B) := hB
 have HL : Hid (l.length = lp) := hlp
 rw [hR]
 rw [hlp] at E hll |-
 rw [hB] at E
 clear hB hz hlp hR
 by_cases h0 : 0 < lp
 ·have h0i : (0 : Int) < (lp : Int) := by omega
  have HF : Hid (R = B) := by
   have e : inB (l.length : Int) 1 3 = decide (l.length <= 3) := by
    have := HL.out
    unfold inB
    by_cases h3 : l.length <= 3
    ·rw [decide_eq_true h3]; exact decide_eq_true (by omega)
    ·rw [decide_eq_false h3]; exact decide_eq_false (by omega)
   show R = B
   rw [<- HR.out, <- HB.out, e]
   rfl
  clear h0
  go_enter Tryz.func30, Tryz.ntmps30
  go_wp2_with fail
  refine E.mono ?_
  rintro e w2 ⟨rfl, hb⟩
  have G2 : Hid (Below w.heap.size w w2) := hb
  clear E hb
  cases B with
  | false =>
   go_wp2_with fail
   go_ret
   exact ⟨by rw [HF.out]; rfl, G2.out⟩
  | true =>
   go_wp2_with fail
   go_ret
   exact ⟨by rw [HF.out]; rfl, G2.out⟩
 ·have h0i : ¬ (0 : Int) < (lp : Int) := by omega
  have HF : Hid (R = false) := by
   have e : inB (l.length : Int) 1 3 = false := by
    have := HL.out
    unfold inB
    exact decide_eq_false (by omega)
   show R = false
   rw [<- HR.out, e]
   simp
  clear h0
  go_enter Tryz.func30, Tryz.ntmps30
  go_wp2_with fail
  go_ret
  exact ⟨by rw [HF.out]; rfl, Below.refl _ _⟩
theorem implAskOk_any (c : Ak) (v : Value) (w : World) (hz : wtAk c <= 1000000000) (ha : AkAt w v c) :
  Calls Tryz.prog 11 #[v] w fun e w' => e = .returned (.bool (askOk c)) /\ Below w.heap.size w w' := by
 obtain ⟨pv, rfl, h1⟩ := ha
 obtain ⟨pa, pc, hpa⟩ : ∃ ao cap, pv = .slice ao c.tg.length cap := by obtain ⟨ao, cap, h, _⟩ := h1; exact ⟨ao, cap, h⟩
 have hll := Nat.le_trans (tot_len c.tg) hz
 obtain ⟨lp, hlp⟩ := zE (c.tg.length)
 rw [hlp] at hpa hll
 subst hpa
 obtain ⟨B1, hB1⟩ := zE ((tgOk c.tg && inB (c.tg.length : Int) 1 3))
 have E1 : Hid (∀ W, Below w.heap.size w W -> Calls Tryz.prog 30 #[.slice pa lp pc] W fun e w' => e = .returned (.bool B1) /\ Below W.heap.size W w') := fun W hb => by rw [<- hB1]; exact targetsRight_any c.tg _ W hz (h1.below hb)
 obtain ⟨B2, hB2⟩ := zE (inB c.plan 0 99)
 have E2 : Hid (∀ W, Below w.heap.size w W -> Calls Tryz.prog 31 #[.int .i64 99, .int .i64 c.plan] W fun e w' => e = .returned (.bool B2) /\ Below W.heap.size W w') := fun W hb => by rw [<- hB2]; exact upTo_any _ _ W
 obtain ⟨B3, hB3⟩ := zE (inB c.want 0 3)
 have E3 : Hid (∀ W, Below w.heap.size w W -> Calls Tryz.prog 31 #[.int .i64 3, .int .i64 c.want] W fun e w' => e = .returned (.bool B3) /\ Below W.heap.size W w') := fun W hb => by rw [<- hB3]; exact upTo_any _ _ W
 obtain ⟨B4, hB4⟩ := zE (inB c.nonce 0 1000000000)
 have E4 : Hid (∀ W, Below w.heap.size w W -> Calls Tryz.prog 31 #[.int .i64 1000000000, .int .i64 c.nonce] W fun e w' => e = .returned (.bool B4) /\ Below W.heap.size W w') := fun W hb => by rw [<- hB4]; exact upTo_any _ _ W
 obtain ⟨B5, hB5⟩ := zE (inB c.time 0 9999)
 have E5 : Hid (∀ W, Below w.heap.size w W -> Calls Tryz.prog 31 #[.int .i64 9999, .int .i64 c.time] W fun e w' => e = .returned (.bool B5) /\ Below W.heap.size W w') := fun W hb => by rw [<- hB5]; exact upTo_any _ _ W
 have HC : Hid (askOk c = (B1 && (B2 && (B3 && (B4 && B5))))) := by show askOk c = _; unfold askOk; rw [hB1, hB2, hB3, hB4, hB5]
 clear hB1 hB2 hB3 hB4 hB5 h1 hlp hz
 unfold akV
 go_enter Tryz.func11, Tryz.ntmps11
 go_wp2_with fail
 obtain ⟨V0, hV⟩ : ∃ V, V = w.alloc (Obj.cells #[.slice pa lp pc, .int .i64 c.plan, .int .i64 c.want, .int .i64 c.nonce, .int .i64 c.time, .bool c.cac] 26) := ⟨_, rfl⟩
 rw [<- hV]
 have G0 : Hid (Below w.heap.size w V0 /\ Blk V0 w.heap.size 26 #[.slice pa lp pc, .int .i64 c.plan, .int .i64 c.want, .int .i64 c.nonce, .int .i64 c.time, .bool c.cac]) := by rw [hV]; exact ⟨(Below.refl _ _).alloc (Nat.le_refl _) _, Blk.new w _ _⟩
 clear hV
 refine (E1.out V0 G0.out.1).mono ?_
 rintro e V1 ⟨rfl, hb⟩
 have G1 : Hid (Below w.heap.size w V1 /\ Blk V1 w.heap.size 26 #[.slice pa lp pc, .int .i64 c.plan, .int .i64 c.want, .int .i64 c.nonce, .int .i64 c.time, .bool c.cac]) := ⟨G0.out.1.trans (hb.mono G0.out.1.size), G0.out.2.below hb G0.out.2.lt⟩
 clear hb E1 G0
 have d10 : V1.cell? ⟨w.heap.size, 0, none⟩ = some (.slice pa lp pc) := G1.out.2.cell 0
 have d11 : V1.cell? ⟨w.heap.size, 1, none⟩ = some (.int .i64 c.plan) := G1.out.2.cell 1
 have d12 : V1.cell? ⟨w.heap.size, 2, none⟩ = some (.int .i64 c.want) := G1.out.2.cell 2
 have d13 : V1.cell? ⟨w.heap.size, 3, none⟩ = some (.int .i64 c.nonce) := G1.out.2.cell 3
 have d14 : V1.cell? ⟨w.heap.size, 4, none⟩ = some (.int .i64 c.time) := G1.out.2.cell 4
 have d15 : V1.cell? ⟨w.heap.size, 5, none⟩ = some (.bool c.cac) := G1.out.2.cell 5
 cases B1 with
 | false =>
  go_wp2_with fail
  go_ret
  exact ⟨by rw [HC.out]; rfl, G1.out.1⟩
 | true =>
  go_wp2_with fail
  refine (E2.out V1 G1.out.1).mono ?_
  rintro e V2 ⟨rfl, hb⟩
  have G2 : Hid (Below w.heap.size w V2 /\ Blk V2 w.heap.size 26 #[.slice pa lp pc, .int .i64 c.plan, .int .i64 c.want, .int .i64 c.nonce, .int .i64 c.time, .bool c.cac]) := ⟨G1.out.1.trans (hb.mono G1.out.1.size), G1.out.2.below hb G1.out.2.lt⟩
  clear hb E2 G1
  have d20 : V2.cell? ⟨w.heap.size, 0, none⟩ = some (.slice pa lp pc) := G2.out.2.cell 0
  have d21 : V2.cell? ⟨w.heap.size, 1, none⟩ = some (.int .i64 c.plan) := G2.out.2.cell 1
  have d22 : V2.cell? ⟨w.heap.size, 2, none⟩ = some (.int .i64 c.want) := G2.out.2.cell 2
  have d23 : V2.cell? ⟨w.heap.size, 3, none⟩ = some (.int .i64 c.nonce) := G2.out.2.cell 3
  have d24 : V2.cell? ⟨w.heap.size, 4, none⟩ = some (.int .i64 c.time) := G2.out.2.cell 4
  have d25 : V2.cell? ⟨w.heap.size, 5, none⟩ = some (.bool c.cac) := G2.out.2.cell 5
  cases B2 with
  | false =>
   go_wp2_with fail
   go_ret
   exact ⟨by rw [HC.out]; rfl, G2.out.1⟩
  | true =>
   go_wp2_with fail
   refine (E3.out V2 G2.out.1).mono ?_
   rintro e V3 ⟨rfl, hb⟩
   have G3 : Hid (Below w.heap.size w V3 /\ Blk V3 w.heap.size 26 #[.slice pa lp pc, .int .i64 c.plan, .int .i64 c.want, .int .i64 c.nonce, .int .i64 c.time, .bool c.cac]) := ⟨G2.out.1.trans (hb.mono G2.out.1.size), G2.out.2.below hb G2.out.2.lt⟩
   clear hb E3 G2
   have d30 : V3.cell? ⟨w.heap.size, 0, none⟩ = some (.slice pa lp pc) := G3.out.2.cell 0
   have d31 : V3.cell? ⟨w.heap.size, 1, none⟩ = some (.int .i64 c.plan) := G3.out.2.cell 1
   have d32 : V3.cell? ⟨w.heap.size, 2, none⟩ = some (.int .i64 c.want) := G3.out.2.cell 2
   have d33 : V3.cell? ⟨w.heap.size, 3, none⟩ = some (.int .i64 c.nonce) := G3.out.2.cell 3
   have d34 : V3.cell? ⟨w.heap.size, 4, none⟩ = some (.int .i64 c.time) := G3.out.2.cell 4
   have d35 : V3.cell? ⟨w.heap.size, 5, none⟩ = some (.bool c.cac) := G3.out.2.cell 5
   cases B3 with
   | false =>
    go_wp2_with fail
    go_ret
    exact ⟨by rw [HC.out]; rfl, G3.out.1⟩
   | true =>
    go_wp2_with fail
    refine (E4.out V3 G3.out.1).mono ?_
    rintro e V4 ⟨rfl, hb⟩
    have G4 : Hid (Below w.heap.size w V4 /\ Blk V4 w.heap.size 26 #[.slice pa lp pc, .int .i64 c.plan, .int .i64 c.want, .int .i64 c.nonce, .int .i64 c.time, .bool c.cac]) := ⟨G3.out.1.trans (hb.mono G3.out.1.size), G3.out.2.below hb G3.out.2.lt⟩
    clear hb E4 G3
    have d40 : V4.cell? ⟨w.heap.size, 0, none⟩ = some (.slice pa lp pc) := G4.out.2.cell 0
    have d41 : V4.cell? ⟨w.heap.size, 1, none⟩ = some (.int .i64 c.plan) := G4.out.2.cell 1
    have d42 : V4.cell? ⟨w.heap.size, 2, none⟩ = some (.int .i64 c.want) := G4.out.2.cell 2
    have d43 : V4.cell? ⟨w.heap.size, 3, none⟩ = some (.int .i64 c.nonce) := G4.out.2.cell 3
    have d44 : V4.cell? ⟨w.heap.size, 4, none⟩ = some (.int .i64 c.time) := G4.out.2.cell 4
    have d45 : V4.cell? ⟨w.heap.size, 5, none⟩ = some (.bool c.cac) := G4.out.2.cell 5
    cases B4 with
    | false =>
     go_wp2_with fail
     go_ret
     exact ⟨by rw [HC.out]; rfl, G4.out.1⟩
    | true =>
     go_wp2_with fail
     refine (E5.out V4 G4.out.1).mono ?_
     rintro e V5 ⟨rfl, hb⟩
     have G5 : Hid (Below w.heap.size w V5 /\ Blk V5 w.heap.size 26 #[.slice pa lp pc, .int .i64 c.plan, .int .i64 c.want, .int .i64 c.nonce, .int .i64 c.time, .bool c.cac]) := ⟨G4.out.1.trans (hb.mono G4.out.1.size), G4.out.2.below hb G4.out.2.lt⟩
     clear hb E5 G4
     have d50 : V5.cell? ⟨w.heap.size, 0, none⟩ = some (.slice pa lp pc) := G5.out.2.cell 0
     have d51 : V5.cell? ⟨w.heap.size, 1, none⟩ = some (.int .i64 c.plan) := G5.out.2.cell 1
     have d52 : V5.cell? ⟨w.heap.size, 2, none⟩ = some (.int .i64 c.want) := G5.out.2.cell 2
     have d53 : V5.cell? ⟨w.heap.size, 3, none⟩ = some (.int .i64 c.nonce) := G5.out.2.cell 3
     have d54 : V5.cell? ⟨w.heap.size, 4, none⟩ = some (.int .i64 c.time) := G5.out.2.cell 4
     have d55 : V5.cell? ⟨w.heap.size, 5, none⟩ = some (.bool c.cac) := G5.out.2.cell 5
     go_wp2_with fail
     go_ret
     exact ⟨by rw [HC.out]; rfl, G5.out.1⟩
end Go.Proofs.YthbdgdfanpbkeaaGreat
namespace Go.Proofs.YthbdgdfanpbkeaaGreat
open Go.RowKit Der
set_option linter.unusedVariables false
theorem rowByt_any (n : Nat) (ls : List ByteArray) (v : Value) (w : World) (hz : ls.length <= 20000000) (hwd : ∀ s ∈ ls, s.size <= 20000000) (hx : TxtAt w v ls) :
  Calls Tryz.prog 41 #[v, .func (.func 42) #[] #[]] w fun e w' => ToIt w (n + 1) (lstJ (ls.map bytJ)) e w' := by
 obtain ⟨ax, cx, rfl, hcell⟩ := id hx
 obtain ⟨l, hle⟩ := zE (ls.length)
 have HX : Hid ((∀ j, j < ls.length -> ∃ g, ax = some ⟨g, 0, none⟩ /\ g < w.heap.size /\ w.cell? ⟨g, j, none⟩ = some (.string (ls.getD j ByteArray.empty))) /\ ls.length = l /\ (∀ s ∈ ls, s.size <= 20000000)) := ⟨hcell, hle, hwd⟩
 have hlb : l <= 20000000 := by rw [<- hle]; exact hz
 rw [hle]
 clear hx hz hle hcell hwd
 obtain ⟨ks, hks⟩ : ∃ ks : List (It (n + 1)), ls.map bytJ = ks := ⟨_, rfl⟩
 rw [hks]
 have HK0 : Hid (ls.map bytJ = ks /\ ks.length = l) := ⟨hks, by rw [<- hks, List.length_map]; exact HX.out.2.1⟩
 clear hks
 go_enter Tryz.func41, Tryz.ntmps41
 go_wp2_with fail
 obtain ⟨W3, hW3⟩ : ∃ W, W = w.alloc (Obj.cells #[Value.int IntKind.i64 0, Value.string ⟨#[]⟩, Value.slice none 0 0] 41) := ⟨_, rfl⟩
 rw [<- hW3]
 have H3 : Hid (Below w.heap.size w W3 /\ W3.heap.size = w.heap.size + 1 /\ Blk3 W3 w.heap.size (.int .i64 0) (.string ⟨#[]⟩) (.slice none 0 0)) := by rw [hW3]; exact ⟨(Below.refl _ _).alloc (Nat.le_refl _) _, Array.size_push _, heap_alloc_new w _⟩
 clear hW3
 go_loopw [5, 10] (fun kv iv wr => ∃ k : Nat, k <= l /\ iv = .int .i64 k /\ Hid (Blk3 wr w.heap.size (.int .i64 0) (.string ⟨#[]⟩) (.slice none 0 0) /\ GrowK wr (w.heap.size + 1) n kv (ks.take k) /\ Below w.heap.size w wr /\ w.heap.size + 1 <= wr.heap.size)) (fun _ iv _ => l - (intOf iv).toNat)
 case atStart => exact ⟨0, Nat.zero_le _, rfl, H3.out.2.2, GrowK.nil _ _ _, H3.out.1, by rw [H3.out.2.1]; exact Nat.le_refl _⟩
 case round =>
  obtain ⟨k, hk, rfl, HK⟩ := hrel
  clear H3
  obtain ⟨axe, cape, hkv⟩ := HK.out.2.1.shape
  obtain ⟨le, hle⟩ := zE ((ks.take k).length)
  have hlek : le = k := by rw [<- hle, List.length_take]; have := HK0.out.2; omega
  rw [hle, hlek] at hkv
  subst hkv
  clear hle hlek
  by_cases hlt : k < l
  ·have hlti : (k : Int) < (l : Int) := by omega
   have hk0 : (0 : Int) <= (k : Int) := by omega
   have hj0 : k < ls.length := by rw [HX.out.2.1]; exact hlt
   have hj1 : k < ks.length := by rw [HK0.out.2]; exact hlt
   obtain ⟨g1, hax, hg1, hc1⟩ := HX.out.1 k hj0
   have c10 : wr.cell? ⟨g1, k, none⟩ = some (.string (ls.getD k ByteArray.empty)) := (HK.out.2.2.1.cell (p := ⟨g1, k, none⟩) hg1).trans hc1
   have hm : (ls.getD k ByteArray.empty) ∈ ls := by rw [List.getD_eq_getElem?_getD, List.getElem?_eq_getElem hj0]; exact List.getElem_mem _
   obtain ⟨x, hxe⟩ := zE ((ls.getD k ByteArray.empty))
   rw [hxe] at c10 hm
   have hkx : ks[k] = bytJ x := by
    rw [<- hxe]
    have h := HK0.out.1
    subst h
    simp [List.getD, hj0]
   have E := bytesItem_any x wr (HX.out.2.2 x hm)
   obtain ⟨s3, hs3⟩ : ∃ s3 : ByteArray, x = s3 := ⟨_, rfl⟩
   have HT : Hid (It.tag ks[k] = 4 /\ (⟨(It.text ks[k]).toArray⟩ : ByteArray) = s3 /\ It.kids ks[k] = []) := by
    rw [hkx]
    exact ⟨rfl, by rw [<- hs3]; show (⟨x.data.toList.toArray⟩ : ByteArray) = x; simp, rfl⟩
   have E3 : Calls Tryz.prog 42 #[.string x] wr fun e w' => e = .returned (.agg #[.int .i64 4, .string s3, .slice none 0 0]) /\ Below wr.heap.size wr w' := by
    refine E.mono ?_
    rintro e w' ⟨rfl, hb⟩
    exact ⟨by rw [<- hs3], hb⟩
   clear E
   have htl : (ks.take k).length = k := by rw [List.length_take]; omega
   subst hax
   clear hc1 hg1 hxe hkx hm hs3
   go_wp2_with fail
   refine E3.mono ?_
   rintro e w3 ⟨rfl, hb3⟩
   have H4 : Hid (Below wr.heap.size wr w3 /\ OwnK w3 wr.heap.size n (.slice none 0 0) (It.kids ks[k]) []) := ⟨hb3, by rw [HT.out.2.2]; exact own_none _ _ _⟩
   clear E3 hb3 c10
   go_wp2_with (at_builtin; refine wpList_append_item rfl _ _ rfl (w.heap.size + 1) n (.slice axe k cape) (ks.take k) ks[k] 4 s3 (.slice none 0 0) [] HT.out.1 HT.out.2.1 rfl _ rfl (by simp) HK.out.2.1 H4.out.1 H4.out.2 HK.out.2.2.2 (by omega) ?_)
   intro g cap w6 hG6 hgrow6
   have H6 : Hid (Blk3 w6 w.heap.size (.int .i64 0) (.string ⟨#[]⟩) (.slice none 0 0) /\ GrowK w6 (w.heap.size + 1) n (.slice (some ⟨g, 0, none⟩) (k + 1) cap) (ks.take (k + 1)) /\ Below w.heap.size w w6 /\ w.heap.size + 1 <= w6.heap.size) := by
    have hb5 := H4.out.1.alloc H4.out.1.size (Obj.cells #[Value.int IntKind.i64 4, Value.string s3, Value.slice none 0 0] 41)
    have hbw := HK.out.2.2.1.trans (hb5.mono HK.out.2.2.1.size)
    have e := List.take_append_getElem hj1
    have hkb := HK.out.2.1.lt
    try rw [htl] at hG6
    try rw [e] at hG6
    exact ⟨(HK.out.1.below hb5).grown hgrow6 (fun q => by have := (hkb _ q.symm).1; omega), hG6, hbw.grown hgrow6 hbw.size (fun q hq => by have := (hkb q hq).1; omega), Nat.le_trans HK.out.2.2.2 (Nat.le_trans hb5.size hgrow6.size)⟩
   try rw [htl]
   clear hG6 hgrow6 H4 HK
   go_wp2_with fail
   exact ⟨⟨k + 1, by omega, by go_num, H6⟩, by simp [intOf]; omega⟩
  ·have hlti : ¬ (k : Int) < (l : Int) := by omega
   obtain ⟨⟨r0, r1, r2⟩, rf⟩ := cell_in HK.out.1
   have HE : Hid (∃ fp, OwnK wr (w.heap.size + 1) (n + 1) (.slice axe k cape) ks fp) := by
    have h := HK.out.2.1
    rw [List.take_of_length_le (by have := HK0.out.2; omega)] at h
    exact h.own
   go_wp2_with fail
   refine bodyPost_ret (v := .agg #[.int .i64 48, .string ⟨#[]⟩, .slice axe k cape]) (by simp [results, Tryz.results41, go_sem, r0, r1, r2]; try rfl) rfl ?_
   obtain ⟨fp, hfp⟩ := HE.out
   refine ⟨.slice axe k cape, fp, rfl, ?_, ?_⟩
   ·refine OwnK.base (base := w.heap.size + 1) (by omega) (hfp.same fun b hb => ?_)
    have h1 := (OwnK.lt hfp b hb).1
    rw [heap_setCell_other _ _ _ _ (by show b ≠ w.heap.size; omega), heap_setCell_other _ _ _ _ (by show b ≠ w.heap.size; omega), heap_setCell_other _ _ _ _ (by show b ≠ w.heap.size; omega)]
   ·exact ((HK.out.2.2.1.setCell (p := ⟨w.heap.size, 0, none⟩) (Nat.le_refl _) _).setCell (p := ⟨w.heap.size, 1, none⟩) (Nat.le_refl _) _).setCell (p := ⟨w.heap.size, 2, none⟩) (Nat.le_refl _) _
theorem bytsI_any (n : Nat) (ls : List ByteArray) (v : Value) (w : World) (hz : ls.length <= 20000000) (hwd : WdT ls) (hx : TxtAt w v ls) :
  Calls Tryz.prog 19 #[v] w fun e w' => ToIt w (n + 1) (lstJ (ls.map bytJ)) e w' := by
 obtain ⟨ax, cx, rfl, hcell⟩ := id hx
 obtain ⟨l, hle⟩ := zE (ls.length)
 have HX : Hid ((∀ j, j < ls.length -> ∃ g, ax = some ⟨g, 0, none⟩ /\ g < w.heap.size /\ w.cell? ⟨g, j, none⟩ = some (.string (ls.getD j ByteArray.empty))) /\ ls.length = l /\ WdT ls) := ⟨hcell, hle, hwd⟩
 have hlb : l <= 20000000 := by rw [<- hle]; exact hz
 rw [hle]
 clear hx hz hle hcell hwd
 obtain ⟨ks, hks⟩ : ∃ ks : List (It (n + 1)), ls.map bytJ = ks := ⟨_, rfl⟩
 rw [hks]
 have HK0 : Hid (ls.map bytJ = ks /\ ks.length = l) := ⟨hks, by rw [<- hks, List.length_map]; exact HX.out.2.1⟩
 clear hks
 go_enter Tryz.func19, Tryz.ntmps19
 go_wp2_with fail
 obtain ⟨W3, hW3⟩ : ∃ W, W = (w.alloc (Obj.cells #[Value.int IntKind.i64 0, Value.string { data := #[] }, Value.slice none 0 0] 41)).alloc (Obj.cells #[Value.int IntKind.i64 48, Value.string { data := #[] }, Value.slice none 0 0] 41) := ⟨_, rfl⟩
 rw [<- hW3]
 have H3 : Hid (Below w.heap.size w W3 /\ W3.heap.size = w.heap.size + 2 /\ Blk3 W3 w.heap.size (.int .i64 0) (.string ⟨#[]⟩) (.slice none 0 0) /\ Blk3 W3 (w.heap.size + 1) (.int .i64 48) (.string ⟨#[]⟩) (.slice none 0 0)) := two_blk w _ _ _ _ _ _ W3 hW3
 clear hW3
 go_loopw [4] (fun iv wr => ∃ k : Nat, k <= l /\ iv = .int .i64 k /\ Hid (∃ kv : Value, Blk3 wr w.heap.size (.int .i64 0) (.string ⟨#[]⟩) (.slice none 0 0) /\ Blk3 wr (w.heap.size + 1) (.int .i64 48) (.string ⟨#[]⟩) kv /\ GrowK wr (w.heap.size + 2) n kv (ks.take k) /\ Below w.heap.size w wr /\ w.heap.size + 2 <= wr.heap.size)) (fun iv _ => l - (intOf iv).toNat)
 case atStart => exact ⟨0, Nat.zero_le _, rfl, _, H3.out.2.2.1, H3.out.2.2.2, GrowK.nil _ _ _, H3.out.1, by rw [H3.out.2.1]; exact Nat.le_refl _⟩
 case round =>
  obtain ⟨k, hk, rfl, HR⟩ := hrel
  obtain ⟨kv, hr1, hr2, hrG, hrB, hrs⟩ := HR.out
  have HK : Hid (Blk3 wr w.heap.size (.int .i64 0) (.string ⟨#[]⟩) (.slice none 0 0) /\ Blk3 wr (w.heap.size + 1) (.int .i64 48) (.string ⟨#[]⟩) kv /\ GrowK wr (w.heap.size + 2) n kv (ks.take k) /\ Below w.heap.size w wr /\ w.heap.size + 2 <= wr.heap.size) := ⟨hr1, hr2, hrG, hrB, hrs⟩
  clear HR hr1 hr2 hrG hrB hrs H3
  by_cases hlt : k < l
  ·have hlti : (k : Int) < (l : Int) := by omega
   have hk0 : (0 : Int) <= (k : Int) := by omega
   have hj0 : k < ls.length := by rw [HX.out.2.1]; exact hlt
   have hj1 : k < ks.length := by rw [HK0.out.2]; exact hlt
   obtain ⟨g1, hax, hg1, hc1⟩ := HX.out.1 k hj0
   have c10 : wr.cell? ⟨g1, k, none⟩ = some (.string (ls.getD k ByteArray.empty)) := (HK.out.2.2.2.1.cell (p := ⟨g1, k, none⟩) hg1).trans hc1
   have hm : (ls.getD k ByteArray.empty) ∈ ls := by rw [List.getD_eq_getElem?_getD, List.getElem?_eq_getElem hj0]; exact List.getElem_mem _
   obtain ⟨x, hxe⟩ := zE ((ls.getD k ByteArray.empty))
   rw [hxe] at c10 hm
   have hkx : ks[k] = bytJ x := by
    rw [<- hxe]
    have h := HK0.out.1
    subst h
    simp [List.getD, hj0]
   have E := bytes_any x wr.drew
   obtain ⟨s3, hs3⟩ : ∃ s3 : ByteArray, x = s3 := ⟨_, rfl⟩
   have HT : Hid (It.tag ks[k] = 4 /\ (⟨(It.text ks[k]).toArray⟩ : ByteArray) = s3 /\ It.kids ks[k] = []) := by
    rw [hkx]
    exact ⟨rfl, by rw [<- hs3]; show (⟨x.data.toList.toArray⟩ : ByteArray) = x; simp, rfl⟩
   have E3 : Calls Tryz.prog 47 #[.string x] wr.drew fun e w' => e = .returned (.agg #[.int .i64 4, .string s3, .slice none 0 0]) /\ Below wr.heap.size wr w' := by
    refine E.mono ?_
    rintro e w' ⟨rfl, hb⟩
    exact ⟨by rw [<- hs3], (Below.refl wr.heap.size wr).drew.trans hb⟩
   obtain ⟨⟨_, _, y2⟩, fy⟩ := cell_in HK.out.2.1
   have htl : (ks.take k).length = k := by rw [List.length_take]; omega
   have HG1 : Hid (g1 < w.heap.size) := hg1
   have HNE : Hid (∀ q, q < w.heap.size + 2 -> some q ≠ kv.ownBlock) := fun q hq e => by have := (HK.out.2.2.1.lt q e.symm).1; omega
   subst hax
   clear hc1 hg1 hxe hkx hm E hs3
   go_wp2_with fail
   have hcs : wr.cell? ⟨w.heap.size + 1, 2, none⟩ = some kv /\ wr.cell? ⟨g1, k, none⟩ = some (.string x) := ⟨y2, c10⟩
   go_region_law (first
    | (refine step_call rfl 47 _ _ rfl #[.string x] rfl (by kernel_rfl) ?_; refine E3.mono ?_; rintro e w3 ⟨rfl, hb3⟩; have ho3 : OwnK w3 wr.heap.size n (.slice none 0 0) (It.kids ks[k]) [] := (by rw [HT.out.2.2]; exact own_none _ _ _); have hc3 := both_below hcs (by have := HK.out.2.2.2.2; omega) (by have := HG1.out; have := HK.out.2.2.2.1.size; omega) hb3; have hy3 := hc3.1; have hc4 := fun o => both_below hcs (by have := HK.out.2.2.2.2; omega) (by have := HG1.out; have := HK.out.2.2.2.1.size; omega) (hb3.alloc hb3.size o); have hy4 := fun o => (hc4 o).1; clear hc3; dsimp only)
    | (refine step_append_item0 rfl _ _ rfl (w.heap.size + 2) n kv (ks.take k) ks[k] 4 s3 (.slice none 0 0) [] HT.out.1 HT.out.2.1 rfl _ rfl rfl HK.out.2.2.1 hb3 ho3 HK.out.2.2.2.2 (by omega) ?_; intro g cap w6 hG6 hgrow6; have hy6 := (both_grown (hc4 _) hgrow6 (HNE.out _ (by omega)) (HNE.out _ (by have := HG1.out; omega))).1; have fz6 := (cell_in ((HK.out.2.1.below (hb3.alloc hb3.size _)).grown hgrow6 (HNE.out _ (by omega)))).2))
   all_goals (
    have H6 : Hid (Blk3 w6 w.heap.size (.int .i64 0) (.string ⟨#[]⟩) (.slice none 0 0) /\ Blk3 w6 (w.heap.size + 1) (.int .i64 48) (.string ⟨#[]⟩) kv /\ GrowK w6 (w.heap.size + 2) n (.slice (some ⟨g, 0, none⟩) (k + 1) cap) (ks.take (k + 1)) /\ Below w.heap.size w w6 /\ w.heap.size + 2 <= w6.heap.size) := by
     have hb5 := hb3.alloc hb3.size (Obj.cells #[Value.int IntKind.i64 4, Value.string s3, Value.slice none 0 0] 41)
     have hbw := HK.out.2.2.2.1.trans (hb5.mono HK.out.2.2.2.1.size)
     have e := List.take_append_getElem hj1
     rw [htl, e] at hG6
     exact ⟨(HK.out.1.below hb5).grown hgrow6 (HNE.out _ (by omega)), (HK.out.2.1.below hb5).grown hgrow6 (HNE.out _ (by omega)), hG6, hbw.grown hgrow6 hbw.size (fun q hq => by have := (HK.out.2.2.1.lt q hq).1; omega), Nat.le_trans HK.out.2.2.2.2 (Nat.le_trans hb5.size hgrow6.size)⟩
    clear hG6 hgrow6 hy6 fz6 hy3 hc4 hy4 ho3 hb3 hcs y2 c10 E3
    go_wp2_with fail
    refine ⟨⟨k + 1, by omega, by go_num, .slice (some ⟨g, 0, none⟩) (k + 1) cap, ?_, ?_, ?_, ?_, ?_⟩, by simp [intOf]; omega⟩
    ·exact H6.out.1.other (by show w.heap.size ≠ w.heap.size + 1; omega) _
    ·exact H6.out.2.1.set _
    ·exact H6.out.2.2.1.out fun b hb => heap_setCell_other _ _ _ _ (by show b ≠ w.heap.size + 1; omega)
    ·exact H6.out.2.2.2.1.setCell (p := ⟨w.heap.size + 1, 2, none⟩) (by show w.heap.size <= w.heap.size + 1; omega) _
    ·exact Nat.le_trans H6.out.2.2.2.2 (((Below.refl 0 w6).setCell (p := ⟨w.heap.size + 1, 2, none⟩) (Nat.zero_le _) _).size))
  ·have hlti : ¬ (k : Int) < (l : Int) := by omega
   obtain ⟨⟨q0, q1, q2⟩, _⟩ := cell_in HK.out.2.1
   obtain ⟨⟨r0, r1, r2⟩, rf⟩ := cell_in HK.out.1
   have HE : Hid (∃ fp, OwnK wr (w.heap.size + 2) (n + 1) kv ks fp) := by
    have h := HK.out.2.2.1
    rw [List.take_of_length_le (by have := HK0.out.2; omega)] at h
    exact h.own
   obtain ⟨axe, cape, hkv⟩ := HK.out.2.2.1.shape
   obtain ⟨le, hle⟩ := zE ((ks.take k).length)
   rw [hle] at hkv
   subst hkv
   clear hle
   go_wp2_with fail
   refine bodyPost_ret (v := .agg #[.int .i64 48, .string ⟨#[]⟩, .slice axe le cape]) (by simp [results, Tryz.results19, go_sem, r0, r1, r2]; try rfl) rfl ?_
   obtain ⟨fp, hfp⟩ := HE.out
   refine ⟨.slice axe le cape, fp, rfl, ?_, ?_⟩
   ·refine OwnK.base (base := w.heap.size + 2) (by omega) (hfp.same fun b hb => ?_)
    have h1 := (OwnK.lt hfp b hb).1
    rw [heap_setCell_other _ _ _ _ (by show b ≠ w.heap.size; omega), heap_setCell_other _ _ _ _ (by show b ≠ w.heap.size; omega), heap_setCell_other _ _ _ _ (by show b ≠ w.heap.size; omega)]
   ·exact ((HK.out.2.2.2.1.setCell (p := ⟨w.heap.size, 0, none⟩) (Nat.le_refl _) _).setCell (p := ⟨w.heap.size, 1, none⟩) (Nat.le_refl _) _).setCell (p := ⟨w.heap.size, 2, none⟩) (Nat.le_refl _) _
theorem listOf_any (a : Option Addr) (l cx : Nat) (w : World) : Calls Tryz.prog 40 #[.slice a l cx] w fun e w' => e = .returned (.agg #[.int .i64 48, .string ⟨#[]⟩, .slice a l cx]) /\ Below w.heap.size w w' := by
 go_enter Tryz.func40, Tryz.ntmps40
 go_wp2_with fail
 refine bodyPost_ret (v := .agg #[.int .i64 48, .string ⟨#[]⟩, .slice a l cx]) (by simp [results, Tryz.results40, go_sem]; try rfl) rfl ⟨rfl, ?_⟩
 exact (Below.refl _ _).alloc (Nat.le_refl _) _
def askI (c : Ak) : It 3 := lstJ [lstJ (c.tg.map bytJ), intI c.plan, intI c.want, intI c.nonce, intI c.time, flagJ c.cac]
theorem sz_byts {n : Nat} : ∀ l : List ByteArray, l.length + ((l.map (bytJ (n := n))).map (szI (n + 1))).sum = totT l
 | [] => rfl
 | x :: l => by
  have h1 := sz_byts (n := n) l
  have h2 := sz_byt (n := n) x
  simp only [List.map_cons, List.sum_cons, List.length_cons, totT]
  omega
theorem sz_ask {c : Ak} (h : wtAk c <= 1048576) : szI 3 (askI c) <= 8000000 := by
 unfold wtAk at h
 have a1 : szI 2 (intI c.plan) <= 5 := sz_int c.plan
 have a2 : szI 2 (intI c.want) <= 5 := sz_int c.want
 have a3 : szI 2 (intI c.nonce) <= 5 := sz_int c.nonce
 have a4 : szI 2 (intI c.time) <= 5 := sz_int c.time
 have a5 : szI 2 (flagJ c.cac) = 1 := rfl
 have e : c.tg.length + ((c.tg.map bytJ).map (szI 1)).sum = totT c.tg := sz_byts (n := 0) c.tg
 unfold askI
 rw [sz_lst]
 simp only [List.map_cons, List.map_nil, List.sum_cons, List.sum_nil, List.length_cons, List.length_nil]
 rw [sz_lst]
 simp only [List.length_map]
 omega
theorem ask_row {W W' : World} {b : Nat} {c : Ak} {kT : Value} {fT : List Nat} {FL : ByteArray} (hFL : FL = ⟨[if c.cac then 255 else 0].toArray⟩) (hT : OwnK W b 1 kT (It.kids (n := 1) (lstJ (c.tg.map bytJ))) fT) (hb : b <= W.heap.size)
  (hW : W' = W.alloc (.cells #[.int .i64 48, .string ⟨#[]⟩, kT, .int .i64 2, .string ⟨(intT (numN c.plan)).toArray⟩, .slice none 0 0, .int .i64 2, .string ⟨(intT (numN c.want)).toArray⟩, .slice none 0 0, .int .i64 2, .string ⟨(intT (numN c.nonce)).toArray⟩, .slice none 0 0, .int .i64 2, .string ⟨(intT (numN c.time)).toArray⟩, .slice none 0 0, .int .i64 1, .string FL, .slice none 0 0] 41)) :
  ∃ fp, OwnK W' b 2 (.slice (some ⟨W.heap.size, 0, none⟩) 6 6) (It.kids (askI c)) fp := by
 subst hFL
 have nn := own_none W b 1
 have R : RowsK W b 1 (It.kids (askI c)) [kT, .slice none 0 0, .slice none 0 0, .slice none 0 0, .slice none 0 0, .slice none 0 0] [fT, [], [], [], [], []] := ⟨hT, nn, nn, nn, nn, nn, trivial⟩
 refine (R.grow (cap := 6) hb (by have := hT.nodup; simpa using this) (by show 6 <= 1000; decide) rfl ?_).own
 rw [hW]
 rfl
def KQ (w W : World) (a : Array Value) : Prop := Below w.heap.size w W /\ Blk W w.heap.size 26 a
theorem KQ.below {w W W' : World} {a : Array Value} (h : KQ w W a) (hb : Below W.heap.size W W') : KQ w W' a := ⟨h.1.trans (hb.mono h.1.size), h.2.below hb h.2.lt⟩
theorem KQ.start {w W : World} {a : Array Value} (hW : W = w.alloc (Obj.cells a 26)) : KQ w W a := by rw [hW]; exact ⟨(Below.refl _ _).alloc (Nat.le_refl _) _, Blk.new w _ _⟩
def KQ2 (w W : World) (a : Array Value) : Prop := Below w.heap.size w W /\ Blk W w.heap.size 26 a /\ ∃ x y z, Blk3 W (w.heap.size + 1) x y z
theorem KQ2.below {w W W' : World} {a : Array Value} (h : KQ2 w W a) (hb : Below W.heap.size W W') : KQ2 w W' a := by
 obtain ⟨h1, h2, x, y, z, h3⟩ := h
 exact ⟨h1.trans (hb.mono h1.size), h2.below hb h2.lt, x, y, z, h3.below hb⟩
theorem KQ2.size {w W : World} {a : Array Value} (h : KQ2 w W a) : w.heap.size + 2 <= W.heap.size := by
 obtain ⟨h1, h2, x, y, z, h3⟩ := h
 have := Blk.lt (show Blk W (w.heap.size + 1) 41 #[x, y, z] from h3)
 omega
theorem KQ2.set {w W : World} {a : Array Value} (h : KQ2 w W a) (p q r : Value) : KQ2 w (((W.setCell ⟨w.heap.size + 1, 0, none⟩ p).setCell ⟨w.heap.size + 1, 1, none⟩ q).setCell ⟨w.heap.size + 1, 2, none⟩ r) a := by
 obtain ⟨h1, h2, x, y, z, h3⟩ := h
 have ne : w.heap.size ≠ w.heap.size + 1 := by omega
 refine ⟨((h1.setCell (p := ⟨w.heap.size + 1, 0, none⟩) (by show w.heap.size <= w.heap.size + 1; omega) _).setCell (p := ⟨w.heap.size + 1, 1, none⟩) (by show w.heap.size <= w.heap.size + 1; omega) _).setCell (p := ⟨w.heap.size + 1, 2, none⟩) (by show w.heap.size <= w.heap.size + 1; omega) _, ((h2.other (p := ⟨w.heap.size + 1, 0, none⟩) _ ne).other (p := ⟨w.heap.size + 1, 1, none⟩) _ ne).other (p := ⟨w.heap.size + 1, 2, none⟩) _ ne, p, q, r, ?_⟩
 exact (((show Blk W (w.heap.size + 1) 41 #[x, y, z] from h3).set 0 p).set 1 q).set 2 r
theorem KQ2.start (w : World) (a : Array Value) (x y z : Value) (W : World) (hW : W = (w.alloc (Obj.cells a 26)).alloc (Obj.cells #[x, y, z] 41)) : KQ2 w W a := by
 have e : (w.alloc (Obj.cells a 26)).heap.size = w.heap.size + 1 := size_alloc _ _
 have h := Blk.new (w.alloc (Obj.cells a 26)) 41 #[x, y, z]
 rw [e] at h
 rw [hW]
 exact ⟨((Below.refl _ _).alloc (Nat.le_refl _) _).alloc (by rw [e]; omega) _, (Blk.new w _ _).alloc _, x, y, z, h⟩
theorem flagFK {P : Program} {f : Nat} {a : Array Value} {w : World} {c : Ak} {FL : ByteArray} (E : Calls P f a w fun e w' => e = .returned (.agg #[.int .i64 1, .string ⟨[if c.cac then 255 else 0].toArray⟩, .slice none 0 0]) /\ Below w.heap.size w w') (h : FL = ⟨[if c.cac then 255 else 0].toArray⟩) :
  Calls P f a w fun e w' => e = .returned (.agg #[.int .i64 1, .string FL, .slice none 0 0]) /\ Below w.heap.size w w' := by
 rw [h]; exact E
theorem implAskItem_any (c : Ak) (v : Value) (w : World) (hz : wtAk c <= 20000000) (hw : WdAk c) (ha : AkAt w v c) : Calls Tryz.prog 17 #[v] w fun e w' => ToIt w 2 (askI c) e w' := by
 obtain ⟨pv, rfl, h1⟩ := ha
 obtain ⟨k1, -⟩ := hw
 have w1 := k1 c.plan (by simp)
 have w2 := k1 c.want (by simp)
 have w3 := k1 c.nonce (by simp)
 have w4 := k1 c.time (by simp)
 have HN : Hid ((-9223372036854775808 <= c.plan /\ c.plan <= 9223372036854775807) /\ (-9223372036854775808 <= c.want /\ c.want <= 9223372036854775807) /\ (-9223372036854775808 <= c.nonce /\ c.nonce <= 9223372036854775807) /\ (-9223372036854775808 <= c.time /\ c.time <= 9223372036854775807)) := ⟨w1, w2, w3, w4⟩
 have HW : Hid (c.tg.length <= 20000000 /\ (∀ s ∈ c.tg, s.size <= 20000000) /\ WdT c.tg) := ⟨Nat.le_trans (tot_len _) hz, fun s hs => Nat.le_trans (tot_mem _ s hs) hz, fun s hs => Nat.le_trans (Nat.le_trans (tot_mem _ s hs) hz) (by decide)⟩
 clear hz k1 w1 w2 w3 w4
 obtain ⟨pa, pc, hpa⟩ : ∃ ao cap, pv = .slice ao c.tg.length cap := by obtain ⟨ao, cap, h, _⟩ := h1; exact ⟨ao, cap, h⟩
 obtain ⟨lp, hlp⟩ := zE (c.tg.length)
 rw [hlp] at hpa
 subst hpa
 clear hlp
 obtain ⟨FL, hFL⟩ : ∃ s : ByteArray, s = ⟨[if c.cac then 255 else 0].toArray⟩ := ⟨_, rfl⟩
 have HFL : Hid (FL = ⟨[if c.cac then 255 else 0].toArray⟩) := hFL
 have HL : Hid (TxtAt w (.slice pa lp pc) c.tg) := h1
 clear hFL h1
 unfold akV
 go_enter Tryz.func17, Tryz.ntmps17
 go_wp2_with fail
 obtain ⟨W0, hW0⟩ : ∃ W, W = (w.alloc (Obj.cells #[.slice pa lp pc, .int .i64 c.plan, .int .i64 c.want, .int .i64 c.nonce, .int .i64 c.time, .bool c.cac] 26)).alloc (Obj.cells #[Value.int IntKind.i64 0, Value.string ⟨#[]⟩, Value.slice none 0 0] 41) := ⟨_, rfl⟩
 rw [<- hW0]
 have H0 : KQ2 w W0 #[.slice pa lp pc, .int .i64 c.plan, .int .i64 c.want, .int .i64 c.nonce, .int .i64 c.time, .bool c.cac] := KQ2.start w _ _ _ _ W0 hW0
 clear hW0
 refine wp_region_held_drew (S := fun W => KQ2 w W #[.slice pa lp pc, .int .i64 c.plan, .int .i64 c.want, .int .i64 c.nonce, .int .i64 c.time, .bool c.cac]) (by kernel_rfl) (KQ2.below H0 ((Below.refl _ _).drew)) (fun hHeld => ?_)
 clear H0
 generalize W0.drew = Wd0 at hHeld |-
 refine zT 0 3 ?_ rfl (by rfl) ?_ hHeld ?_
 rotate_left
 ·intro W hSw
  go_simp
  try with_reducible rfl
 try simp only [Act.put, zA, zB, zC]
 refine zT 1 4 ?_ rfl (by rfl) ?_ hHeld ?_
 rotate_left
 ·intro W hSw
  have l0 : W.cell? ⟨w.heap.size, 0, none⟩ = some (.slice pa lp pc) := hSw.2.1.cell 0
  go_simp
  try with_reducible rfl
 try simp only [Act.put, zA, zB, zC]
 refine zT 3 6 ?_ rfl (by rfl) ?_ hHeld ?_
 rotate_left
 ·intro W hSw
  go_simp
  try with_reducible rfl
 try simp only [Act.put, zA, zB, zC]
 refine zT 4 7 ?_ rfl (by rfl) ?_ hHeld ?_
 rotate_left
 ·intro W hSw
  have l0 : W.cell? ⟨w.heap.size, 1, none⟩ = some (.int .i64 c.plan) := hSw.2.1.cell 1
  go_simp
  try with_reducible rfl
 try simp only [Act.put, zA, zB, zC]
 refine zT 6 9 ?_ rfl (by rfl) ?_ hHeld ?_
 rotate_left
 ·intro W hSw
  go_simp
  try with_reducible rfl
 try simp only [Act.put, zA, zB, zC]
 refine zT 7 10 ?_ rfl (by rfl) ?_ hHeld ?_
 rotate_left
 ·intro W hSw
  have l0 : W.cell? ⟨w.heap.size, 2, none⟩ = some (.int .i64 c.want) := hSw.2.1.cell 2
  go_simp
  try with_reducible rfl
 try simp only [Act.put, zA, zB, zC]
 refine zT 9 12 ?_ rfl (by rfl) ?_ hHeld ?_
 rotate_left
 ·intro W hSw
  go_simp
  try with_reducible rfl
 try simp only [Act.put, zA, zB, zC]
 refine zT 10 13 ?_ rfl (by rfl) ?_ hHeld ?_
 rotate_left
 ·intro W hSw
  have l0 : W.cell? ⟨w.heap.size, 3, none⟩ = some (.int .i64 c.nonce) := hSw.2.1.cell 3
  go_simp
  try with_reducible rfl
 try simp only [Act.put, zA, zB, zC]
 refine zT 12 15 ?_ rfl (by rfl) ?_ hHeld ?_
 rotate_left
 ·intro W hSw
  go_simp
  try with_reducible rfl
 try simp only [Act.put, zA, zB, zC]
 refine zT 13 16 ?_ rfl (by rfl) ?_ hHeld ?_
 rotate_left
 ·intro W hSw
  have l0 : W.cell? ⟨w.heap.size, 4, none⟩ = some (.int .i64 c.time) := hSw.2.1.cell 4
  go_simp
  try with_reducible rfl
 try simp only [Act.put, zA, zB, zC]
 refine zT 15 18 ?_ rfl (by rfl) ?_ hHeld ?_
 rotate_left
 ·intro W hSw
  go_simp
  try with_reducible rfl
 try simp only [Act.put, zA, zB, zC]
 refine zT 16 19 ?_ rfl (by rfl) ?_ hHeld ?_
 rotate_left
 ·intro W hSw
  have l0 : W.cell? ⟨w.heap.size, 5, none⟩ = some (.bool c.cac) := hSw.2.1.cell 5
  go_simp
  try with_reducible rfl
 try simp only [Act.put, zA, zB, zC]
 refine wpAnyH_ready (rs := [2]) (by kernel_rfl) (by simp) ?_
 refine AllReadyH.cons (o := ⟨some 5, _, _, _, _, _⟩) rfl (fun K hK => ?_) AllReadyH.nil
 go_simp
 have hsz : w.heap.size + 2 <= _ := KQ2.size hHeld
 refine (rowByt_any 0 c.tg _ _ HW.out.1 HW.out.2.1 (HL.out.below hHeld.1)).mono ?_
 intro e v1 hto
 obtain ⟨aT, lT, cT, fT, rfl, hoT, hv⟩ := to_lst hto
 clear hto
 have hH := KQ2.below hHeld hv
 have HT : Hid (OwnK v1 (w.heap.size + 2) 1 (.slice aT lT cT) (It.kids (n := 1) (lstJ (c.tg.map bytJ))) fT) := OwnK.base hsz hoT
 clear hoT hsz
 go_wp2_with fail
 refine hK.out _ _ hH (fun hHeld => ?_)
 clear hK K hH hv
 try simp only [Act.put, zA, zB, zC]
 refine wpAnyH_ready (rs := [5]) (by kernel_rfl) (by simp) ?_
 refine AllReadyH.cons (o := ⟨some 8, _, _, _, _, _⟩) rfl (fun K hK => ?_) AllReadyH.nil
 go_simp
 refine (implIntItem_any c.plan _ HN.out.1).mono ?_
 rintro e v2 ⟨rfl, hv⟩
 have hH := KQ2.below hHeld hv
 replace HT := zH (HT.out.below hv (fun b hm => (OwnK.lt HT.out b hm).2))
 go_wp2_with fail
 refine hK.out _ _ hH (fun hHeld => ?_)
 clear hK K hH hv
 try simp only [Act.put, zA, zB, zC]
 refine wpAnyH_ready (rs := [8]) (by kernel_rfl) (by simp) ?_
 refine AllReadyH.cons (o := ⟨some 11, _, _, _, _, _⟩) rfl (fun K hK => ?_) AllReadyH.nil
 go_simp
 refine (implIntItem_any c.want _ HN.out.2.1).mono ?_
 rintro e v3 ⟨rfl, hv⟩
 have hH := KQ2.below hHeld hv
 replace HT := zH (HT.out.below hv (fun b hm => (OwnK.lt HT.out b hm).2))
 go_wp2_with fail
 refine hK.out _ _ hH (fun hHeld => ?_)
 clear hK K hH hv
 try simp only [Act.put, zA, zB, zC]
 refine wpAnyH_ready (rs := [11]) (by kernel_rfl) (by simp) ?_
 refine AllReadyH.cons (o := ⟨some 14, _, _, _, _, _⟩) rfl (fun K hK => ?_) AllReadyH.nil
 go_simp
 refine (implIntItem_any c.nonce _ HN.out.2.2.1).mono ?_
 rintro e v4 ⟨rfl, hv⟩
 have hH := KQ2.below hHeld hv
 replace HT := zH (HT.out.below hv (fun b hm => (OwnK.lt HT.out b hm).2))
 go_wp2_with fail
 refine hK.out _ _ hH (fun hHeld => ?_)
 clear hK K hH hv
 try simp only [Act.put, zA, zB, zC]
 refine wpAnyH_ready (rs := [14]) (by kernel_rfl) (by simp) ?_
 refine AllReadyH.cons (o := ⟨some 17, _, _, _, _, _⟩) rfl (fun K hK => ?_) AllReadyH.nil
 go_simp
 refine (implIntItem_any c.time _ HN.out.2.2.2).mono ?_
 rintro e v5 ⟨rfl, hv⟩
 have hH := KQ2.below hHeld hv
 replace HT := zH (HT.out.below hv (fun b hm => (OwnK.lt HT.out b hm).2))
 go_wp2_with fail
 refine hK.out _ _ hH (fun hHeld => ?_)
 clear hK K hH hv
 try simp only [Act.put, zA, zB, zC]
 refine wpAnyH_ready (rs := [17]) (by kernel_rfl) (by simp) ?_
 refine AllReadyH.cons (o := ⟨some 20, _, _, _, _, _⟩) rfl (fun K hK => ?_) AllReadyH.nil
 go_simp
 refine (flagFK (boolItem_any c.cac _) HFL.out).mono ?_
 rintro e v6 ⟨rfl, hv⟩
 have hH := KQ2.below hHeld hv
 replace HT := zH (HT.out.below hv (fun b hm => (OwnK.lt HT.out b hm).2))
 go_wp2_with fail
 refine hK.out _ _ hH (fun hHeld => ?_)
 clear hK K hH hv
 try simp only [Act.put, zA, zB, zC]
 refine wpAnyH_ready (rs := [18]) (by kernel_rfl) (by simp) ?_
 refine AllReadyH.cons (o := ⟨some 21, _, _, _, _, _⟩) rfl (fun K hK => ?_) AllReadyH.nil
 obtain ⟨W3, hW3⟩ : ∃ W, W = v6.alloc (Obj.cells #[.int .i64 48, .string ⟨#[]⟩, .slice aT lT cT, .int .i64 2, .string ⟨(intT (numN c.plan)).toArray⟩, .slice none 0 0, .int .i64 2, .string ⟨(intT (numN c.want)).toArray⟩, .slice none 0 0, .int .i64 2, .string ⟨(intT (numN c.nonce)).toArray⟩, .slice none 0 0, .int .i64 2, .string ⟨(intT (numN c.time)).toArray⟩, .slice none 0 0, .int .i64 1, .string FL, .slice none 0 0] 41) := ⟨_, rfl⟩
 have HF : Hid (∃ fp, OwnK W3 (w.heap.size + 2) 2 (.slice (some ⟨v6.heap.size, 0, none⟩) 6 6) (It.kids (askI c)) fp) := ask_row HFL.out HT.out (KQ2.size hHeld) hW3
 have hH : KQ2 w W3 #[.slice pa lp pc, .int .i64 c.plan, .int .i64 c.want, .int .i64 c.nonce, .int .i64 c.time, .bool c.cac] := KQ2.below hHeld (by rw [hW3]; exact (Below.refl _ _).alloc (Nat.le_refl _) _)
 go_simp
 rw [<- hW3]
 refine hK.out _ _ hH (fun hHeld => ?_)
 clear hK K hH hW3 HT
 try simp only [Act.put, zA, zB, zC]
 obtain ⟨q9, hq9⟩ := zE (v6.heap.size)
 rw [hq9] at HF |-
 clear hq9
 refine wpAnyH_ready (rs := [19]) (by kernel_rfl) (by simp) ?_
 refine AllReadyH.cons (o := ⟨some 22, _, _, _, _, _⟩) rfl (fun K hK => ?_) AllReadyH.nil
 go_simp
 refine (listOf_any (some ⟨q9, 0, none⟩) 6 6 _).mono ?_
 rintro e W9 ⟨rfl, hv⟩
 have hH := KQ2.below hHeld hv
 have HG : Hid (∃ fp, OwnK W9 (w.heap.size + 2) 2 (.slice (some ⟨q9, 0, none⟩) 6 6) (It.kids (askI c)) fp) := by
  obtain ⟨fp, h⟩ := HF.out
  exact ⟨fp, h.below hv (fun b hm => (OwnK.lt h b hm).2)⟩
 clear HF
 go_wp2_with fail
 refine hK.out _ _ hH (fun hHeld => ?_)
 clear hK K hH hv
 try simp only [Act.put, zA, zB, zC]
 refine wpAnyH_ready (rs := [20]) (by kernel_rfl) (by simp) ?_
 refine AllReadyH.cons (o := ⟨none, _, _, _, _, _⟩) rfl (fun K hK => ?_) AllReadyH.nil
 obtain ⟨x9, y9, z9, hB9⟩ := hHeld.2.2
 obtain ⟨⟨r0, r1, r2⟩, rf⟩ := cell_in hB9
 go_simp
 refine hK.out _ _ (KQ2.set hHeld _ _ _) (fun hHeld => ?_)
 clear hK K
 try simp only [Act.put, zA, zB, zC]
 refine wpAnyH_done (by kernel_rfl) ?_ _
 have HEND : Hid (Below w.heap.size w _) := hHeld.1
 clear hHeld
 go_wp2_with fail
 refine bodyPost_ret (v := .agg #[.int .i64 48, .string ⟨#[]⟩, .slice (some ⟨q9, 0, none⟩) 6 6]) (by simp [results, Tryz.results17, go_sem, r0, r1, r2]; try rfl) rfl ?_
 obtain ⟨fp, hfp⟩ := HG.out
 refine ⟨.slice (some ⟨q9, 0, none⟩) 6 6, fp, rfl, ?_, HEND.out⟩
 refine OwnK.base (base := w.heap.size + 2) (by omega) (hfp.same fun b hb => ?_)
 have h1 := (OwnK.lt hfp b hb).1
 rw [heap_setCell_other _ _ _ _ (by show b ≠ w.heap.size + 1; omega), heap_setCell_other _ _ _ _ (by show b ≠ w.heap.size + 1; omega), heap_setCell_other _ _ _ _ (by show b ≠ w.heap.size + 1; omega)]
end Go.Proofs.YthbdgdfanpbkeaaGreat
