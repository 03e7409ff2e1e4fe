/-
  Texts of the proof.
-/
import Derived.Test.YtagmnlmfoanelaaGreatSK27
set_option maxRecDepth 100000
set_option maxHeartbeats 25600000
namespace Go.Proofs.YtagmnlmfoanelaaGreat
open Go.RowKit
set_option linter.unusedVariables false
set_option linter.unusedSimpArgs false
def tgOk (l : List ByteArray) : Bool := decide (∀ j, j < l.length -> (l.getD j ByteArray.empty).size <= 400)
theorem tg_no {l : List ByteArray} {k : Nat} (h : k < l.length) (h2 : ¬ (l.getD k ByteArray.empty).size <= 400) : tgOk l = false := decide_eq_false fun q => h2 (q k h)
theorem tg_yes {l : List ByteArray} (h : ∀ j, j < l.length -> (l.getD j ByteArray.empty).size <= 400) : tgOk l = true := decide_eq_true h
def txOk (l : List ByteArray) (m : Nat) : Bool := tgOk l && decide (l.length <= m)
def IxP (b : Bool) (w : World) (e : Ending) (w' : World) : Prop := ∃ n : Int, e = .returned (.int .i64 n) /\ decide (0 <= n) = b /\ Below w.heap.size w w'
theorem tooLong_any (x : ByteArray) (w : World) (hx : x.size <= 1000000000) :
  Calls Tryz.prog 106 #[.string x] w fun e w' => e = .returned (.bool (decide (400 < x.size))) /\ Below w.heap.size w w' := by
 by_cases h : 400 < x.size
 ·have hi : (400 : Int) < (x.size : Int) := by omega
  have HF : Hid (decide (400 < x.size) = true) := decide_eq_true h
  clear h
  go_enter Tryz.func106, Tryz.ntmps106
  go_wp2_with fail
  go_ret
  exact ⟨by rw [HF.out]; rfl, Below.refl _ _⟩
 ·have hi : ¬ (400 : Int) < (x.size : Int) := by omega
  have HF : Hid (decide (400 < x.size) = false) := decide_eq_false h
  clear h
  go_enter Tryz.func106, Tryz.ntmps106
  go_wp2_with fail
  go_ret
  exact ⟨by rw [HF.out]; rfl, Below.refl _ _⟩
theorem indexLong_any (l : List ByteArray) (v : Value) (w : World) (hz : totT l <= 1000000000) (h1 : TxtAt w v l) :
  Calls Tryz.prog 112 #[v, .func (.func 106) #[] #[]] w fun e w' => IxP (!tgOk l) w e w' := by
 obtain ⟨pa, pc, rfl, hcell⟩ := h1
 have hll := Nat.le_trans (tot_len l) hz
 obtain ⟨lp, hlp⟩ := zE (l.length)
 have HT : Hid ((∀ j, j < l.length -> ∃ g, pa = some ⟨g, 0, none⟩ /\ g < w.heap.size /\ w.cell? ⟨g, j, none⟩ = some (.string (l.getD j ByteArray.empty))) /\ l.length = lp /\ totT l <= 1000000000) := ⟨hcell, hlp, hz⟩
 rw [hlp] at hll |-
 clear hcell hlp hz
 go_enter Tryz.func112, Tryz.ntmps112
 go_wp2_with fail
 go_loopw [8] (fun iv wr => ∃ k : Nat, k <= lp /\ iv = .int .i64 k /\ Hid (∀ j, j < k -> (l.getD j ByteArray.empty).size <= 400) /\ Hid (Below w.heap.size w wr)) (fun iv _ => lp - (intOf iv).toNat)
 case atStart => exact ⟨0, Nat.zero_le _, rfl, fun j hj => absurd hj (Nat.not_lt_zero _), Below.refl _ _⟩
 case round =>
  obtain ⟨k, hk, rfl, HL, G1⟩ := hrel
  by_cases hlt : k < lp
  ·obtain ⟨g, hpg, hgw, hcs⟩ := HT.out.1 k (by rw [HT.out.2.1]; exact hlt)
   have hc1 : wr.cell? ⟨g, k, none⟩ = some (.string (l.getD k ByteArray.empty)) := (G1.out.cell (p := ⟨g, k, none⟩) hgw).trans hcs
   have hsx : (l.getD k ByteArray.empty).size <= 1000000000 := by
    have hm : l.getD k ByteArray.empty ∈ l := by rw [List.getD_eq_getElem?_getD, List.getElem?_eq_getElem (by rw [HT.out.2.1]; exact hlt)]; exact List.getElem_mem _
    exact Nat.le_trans (tot_mem l _ hm) HT.out.2.2
   have hki : (k : Int) < (lp : Int) := by omega
   have hk0 : (0 : Int) <= (k : Int) := by omega
   obtain ⟨x, hx⟩ := zE (l.getD k ByteArray.empty)
   rw [hx] at hc1 hsx
   have HX : Hid (l.getD k ByteArray.empty = x) := hx
   subst hpg
   clear hcs hx hgw
   have E := tooLong_any x wr hsx
   by_cases h4 : 400 < x.size
   ·rw [decide_eq_true h4] at E
    have HF : Hid (tgOk l = false) := tg_no (k := k) (by rw [HT.out.2.1]; exact hlt) (by rw [HX.out]; omega)
    clear h4 hsx
    go_wp2_with fail
    refine E.mono ?_
    rintro e w2 ⟨rfl, hb⟩
    have G2 : Hid (Below w.heap.size w w2) := G1.out.trans (hb.mono G1.out.size)
    clear E hb G1
    go_wp2_with fail
    go_ret
    exact ⟨_, rfl, by rw [HF.out]; exact decide_eq_true hk0, G2.out⟩
   ·rw [decide_eq_false h4] at E
    have HN : Hid (∀ j, j < k + 1 -> (l.getD j ByteArray.empty).size <= 400) := fun j hj => by
     rcases Nat.lt_or_ge j k with h | h
     ·exact HL.out j h
     ·have : j = k := by omega
      subst this
      rw [HX.out]; omega
    clear HL h4 hsx
    go_wp2_with fail
    refine E.mono ?_
    rintro e w2 ⟨rfl, hb⟩
    have G2 : Hid (Below w.heap.size w w2) := G1.out.trans (hb.mono G1.out.size)
    clear E hb G1
    go_wp2_with fail
    go_roundw
    case rel => exact ⟨k + 1, by omega, by go_num, HN, G2⟩
    case measure => simp [intOf]; omega
  ·have hkl : lp = k := by omega
   subst hkl
   have HF : Hid (tgOk l = true) := tg_yes (fun j hj => HL.out j (by rw [<- HT.out.2.1]; exact hj))
   go_wp2_with fail
   go_ret
   exact ⟨_, rfl, by rw [HF.out]; rfl, G1.out⟩
theorem containsLong_any (l : List ByteArray) (v : Value) (w : World) (hz : totT l <= 1000000000) (h1 : TxtAt w v l) :
  Calls Tryz.prog 107 #[v, .func (.func 106) #[] #[]] w fun e w' => e = .returned (.bool (!tgOk l)) /\ Below w.heap.size w w' := by
 have E := indexLong_any l v w hz h1
 obtain ⟨pa, pc, rfl, -⟩ := h1
 obtain ⟨B, hB⟩ := zE ((!tgOk l))
 rw [hB] at E |-
 clear hB hz
 go_enter Tryz.func107, Tryz.ntmps107
 go_wp2_with fail
 refine E.mono ?_
 rintro e w2 ⟨n, rfl, hn, hb⟩
 have G2 : Hid (Below w.heap.size w w2) := hb
 clear E hb
 have HN : Hid (decide (0 <= n) = B) := hn
 clear hn
 go_wp2_with fail
 go_ret
 exact ⟨by show Ending.returned (.bool (decide (0 <= n))) = _; rw [HN.out], G2.out⟩
theorem textsFit_any (l : List ByteArray) (v : Value) (m : Nat) (w : World) (hz : totT l <= 1000000000) (h1 : TxtAt w v l) :
  Calls Tryz.prog 100 #[.int .i64 (m : Int), v] w fun e w' => e = .returned (.bool (txOk l m)) /\ Below w.heap.size w w' := by
 have E := containsLong_any l v w hz h1
 have hll := Nat.le_trans (tot_len l) hz
 obtain ⟨pa, pc, rfl, -⟩ := h1
 obtain ⟨lp, hlp⟩ := zE (l.length)
 obtain ⟨B, hB⟩ := zE (tgOk l)
 have HT : Hid (txOk l m = (B && decide (lp <= m))) := by show txOk l m = _; unfold txOk; rw [hB, hlp]
 rw [hlp] at E hll |-
 rw [hB] at E
 clear hB hz hlp
 by_cases hm : lp <= m
 ·have hmi : (lp : Int) <= (m : Int) := by omega
  have HF : Hid (txOk l m = B) := by show txOk l m = B; rw [HT.out, decide_eq_true hm]; simp
  go_enter Tryz.func100, Tryz.ntmps100
  go_wp2_with fail
  refine E.mono ?_
  rintro e w2 ⟨rfl, hb⟩
  have G2 : Hid (Below w.heap.size w w2) := hb
  clear E hb HT
  cases B with
  | false =>
   go_wp2_with fail
   go_ret
   exact ⟨by rw [HF.out]; rfl, G2.out⟩
  | true =>
   go_wp2_with fail
   go_ret
   exact ⟨by rw [HF.out]; rfl, G2.out⟩
 ·have hmi : ¬ (lp : Int) <= (m : Int) := by omega
  have HF : Hid (txOk l m = false) := by show txOk l m = false; rw [HT.out, decide_eq_false hm]; simp
  go_enter Tryz.func100, Tryz.ntmps100
  go_wp2_with fail
  go_ret
  exact ⟨by rw [HF.out]; rfl, Below.refl _ _⟩
end Go.Proofs.YtagmnlmfoanelaaGreat
namespace Go.Proofs.YtagmnlmfoanelaaGreat
open Go.RowKit
set_option linter.unusedVariables false
def askOk (c : Ak) : Bool := (tgOk c.tg && inB c.tg.length 1 3) && (inB c.plan 0 99 && (inB c.want 0 3 && (inB c.nonce 0 1000000000 && inB c.time 0 9999)))
theorem specAskOk_any (c : Ak) (v : Value) (w : World) (hz : wtAk c <= 1000000000) (ha : AkAt w v c) :
  Calls Tryz.prog 44 #[v] w fun e w' => e = .returned (.bool (askOk c)) /\ Below w.heap.size w w' := by
 obtain ⟨pv, rfl, h1⟩ := ha
 obtain ⟨pa, pc, hpa⟩ : ∃ ao cap, pv = .slice ao c.tg.length cap := by obtain ⟨ao, cap, h, _⟩ := h1; exact ⟨ao, cap, h⟩
 have hll := Nat.le_trans (tot_len c.tg) hz
 obtain ⟨lp, hlp⟩ := zE (c.tg.length)
 rw [hlp] at hpa hll
 subst hpa
 obtain ⟨B1, hB1⟩ := zE (inB c.tg.length 1 3)
 have E1 : Hid (∀ W, Below w.heap.size w W -> Calls Tryz.prog 22 #[.int .i64 (lp : Int), .int .i64 1, .int .i64 3] W fun e w' => e = .returned (.bool B1) /\ Below W.heap.size W w') := fun W hb => by rw [<- hB1]; exact by rw [hlp]; exact in_any _ _ _ W
 obtain ⟨B2, hB2⟩ := zE (inB c.plan 0 99)
 have E2 : Hid (∀ W, Below w.heap.size w W -> Calls Tryz.prog 22 #[.int .i64 c.plan, .int .i64 0, .int .i64 99] W fun e w' => e = .returned (.bool B2) /\ Below W.heap.size W w') := fun W hb => by rw [<- hB2]; exact in_any _ _ _ W
 obtain ⟨B3, hB3⟩ := zE (inB c.want 0 3)
 have E3 : Hid (∀ W, Below w.heap.size w W -> Calls Tryz.prog 22 #[.int .i64 c.want, .int .i64 0, .int .i64 3] W fun e w' => e = .returned (.bool B3) /\ Below W.heap.size W w') := fun W hb => by rw [<- hB3]; exact in_any _ _ _ W
 obtain ⟨B4, hB4⟩ := zE (inB c.nonce 0 1000000000)
 have E4 : Hid (∀ W, Below w.heap.size w W -> Calls Tryz.prog 22 #[.int .i64 c.nonce, .int .i64 0, .int .i64 1000000000] W fun e w' => e = .returned (.bool B4) /\ Below W.heap.size W w') := fun W hb => by rw [<- hB4]; exact in_any _ _ _ W
 obtain ⟨B5, hB5⟩ := zE (inB c.time 0 9999)
 have E5 : Hid (∀ W, Below w.heap.size w W -> Calls Tryz.prog 64 #[.int .i64 c.time] W fun e w' => e = .returned (.bool B5) /\ Below W.heap.size W w') := fun W hb => by rw [<- hB5]; exact num_any _ W
 have HC0 : Hid (askOk c = ((tgOk c.tg && B1) && (B2 && (B3 && (B4 && B5))))) := by show askOk c = _; unfold askOk; rw [hB1, hB2, hB3, hB4, hB5]
 have HT : Hid (TxtAt w (.slice pa lp pc) c.tg /\ c.tg.length = lp) := ⟨h1, hlp⟩
 have HZ : Hid (wtAk c <= 1000000000) := hz
 clear hB1 hB2 hB3 hB4 hB5 h1 hlp hz
 unfold akV
 go_enter Tryz.func44, Tryz.ntmps44
 go_wp2_with fail
 obtain ⟨V0, hV⟩ : ∃ V, V = w.alloc (Obj.cells #[.slice pa lp pc, .int .i64 c.plan, .int .i64 c.want, .int .i64 c.nonce, .int .i64 c.time, .bool c.cac] 39) := ⟨_, rfl⟩
 rw [<- hV]
 have G0 : Hid (Below w.heap.size w V0 /\ Blk V0 w.heap.size 39 #[.slice pa lp pc, .int .i64 c.plan, .int .i64 c.want, .int .i64 c.nonce, .int .i64 c.time, .bool c.cac]) := by rw [hV]; exact ⟨(Below.refl _ _).alloc (Nat.le_refl _) _, Blk.new w _ _⟩
 clear hV
 go_loopw [3] (fun iv wr => ∃ k : Nat, k <= lp /\ iv = .int .i64 k /\ Hid (∀ j, j < k -> (c.tg.getD j ByteArray.empty).size <= 400) /\ Hid (Below w.heap.size w wr /\ Blk wr w.heap.size 39 #[.slice pa lp pc, .int .i64 c.plan, .int .i64 c.want, .int .i64 c.nonce, .int .i64 c.time, .bool c.cac])) (fun iv _ => lp - (intOf iv).toNat)
 case atStart => exact ⟨0, Nat.zero_le _, rfl, fun j hj => absurd hj (Nat.not_lt_zero _), G0⟩
 case round =>
  obtain ⟨k, hk, rfl, HL, G1⟩ := hrel
  clear G0
  have d0 := fun j => G1.out.2.cell j
  by_cases hlt : k < lp
  ·obtain ⟨ao, cap, he, hcell⟩ := HT.out.1
   obtain ⟨g, hg, hgw, hcs⟩ := hcell k (by rw [HT.out.2]; exact hlt)
   injection he with e1 e2 e3
   have hpg : pa = some ⟨g, 0, none⟩ := by rw [e1]; exact hg
   have hc1 : wr.cell? ⟨g, k, none⟩ = some (.string (c.tg.getD k ByteArray.empty)) := (G1.out.1.cell (p := ⟨g, k, none⟩) hgw).trans hcs
   have hsx : (c.tg.getD k ByteArray.empty).size <= 1000000000 := by
    have hm : c.tg.getD k ByteArray.empty ∈ c.tg := by rw [List.getD_eq_getElem?_getD, List.getElem?_eq_getElem (by rw [HT.out.2]; exact hlt)]; exact List.getElem_mem _
    exact Nat.le_trans (tot_mem c.tg _ hm) HZ.out
   have hki : (k : Int) < (lp : Int) := by omega
   have hk0 : (0 : Int) <= (k : Int) := by omega
   obtain ⟨x, hx⟩ := zE (c.tg.getD k ByteArray.empty)
   rw [hx] at hc1 hsx
   have HX : Hid (c.tg.getD k ByteArray.empty = x) := hx
   subst hpg
   clear hcell hcs e1 e2 e3 hg hx hgw
   by_cases h4 : x.size <= 400
   ·have h4i : ¬ (400 : Int) < (x.size : Int) := by omega
    have HN : Hid (∀ j, j < k + 1 -> (c.tg.getD j ByteArray.empty).size <= 400) := fun j hj => by
     rcases Nat.lt_or_ge j k with h | h
     ·exact HL.out j h
     ·have : j = k := by omega
      subst this
      rw [HX.out]; exact h4
    clear HL
    go_wp2_with fail
    go_roundw
    case rel => exact ⟨k + 1, by omega, by go_num, HN, G1⟩
    case measure => simp [intOf]; omega
   ·have h4i : (400 : Int) < (x.size : Int) := by omega
    have HF : Hid (askOk c = false) := by rw [HC0.out, tg_no (k := k) (by rw [HT.out.2]; exact hlt) (by rw [HX.out]; exact h4)]; rfl
    go_wp2_with fail
    go_ret
    exact ⟨by rw [HF.out]; rfl, G1.out.1⟩
  ·have hkl : lp = k := by omega
   subst hkl
   have HC : Hid (askOk c = (B1 && (B2 && (B3 && (B4 && B5))))) := by rw [HC0.out, tg_yes (fun j hj => HL.out j (by rw [<- HT.out.2]; exact hj))]; rfl
   clear HC0 HL
   go_wp2_with fail
   refine (E1.out wr G1.out.1).mono ?_
   rintro e V2 ⟨rfl, hb⟩
   have G2 := zH (zJ (G1.out.1.trans (hb.mono G1.out.1.size)) (G1.out.2.below hb G1.out.2.lt))
   clear hb E1 G1
   have d20 := fun j => G2.out.2.cell j
   cases B1 with
   | false =>
    go_wp2_with fail
    go_ret
    exact ⟨by rw [HC.out]; rfl, G2.out.1⟩
   | true =>
    go_wp2_with fail
    refine (E2.out V2 G2.out.1).mono ?_
    rintro e V3 ⟨rfl, hb⟩
    have G3 := zH (zJ (G2.out.1.trans (hb.mono G2.out.1.size)) (G2.out.2.below hb G2.out.2.lt))
    clear hb E2 G2
    have d30 := fun j => G3.out.2.cell j
    cases B2 with
    | false =>
     go_wp2_with fail
     go_ret
     exact ⟨by rw [HC.out]; rfl, G3.out.1⟩
    | true =>
     go_wp2_with fail
     refine (E3.out V3 G3.out.1).mono ?_
     rintro e V4 ⟨rfl, hb⟩
     have G4 := zH (zJ (G3.out.1.trans (hb.mono G3.out.1.size)) (G3.out.2.below hb G3.out.2.lt))
     clear hb E3 G3
     have d40 := fun j => G4.out.2.cell j
     cases B3 with
     | false =>
      go_wp2_with fail
      go_ret
      exact ⟨by rw [HC.out]; rfl, G4.out.1⟩
     | true =>
      go_wp2_with fail
      refine (E4.out V4 G4.out.1).mono ?_
      rintro e V5 ⟨rfl, hb⟩
      have G5 := zH (zJ (G4.out.1.trans (hb.mono G4.out.1.size)) (G4.out.2.below hb G4.out.2.lt))
      clear hb E4 G4
      have d50 := fun j => G5.out.2.cell j
      cases B4 with
      | false =>
       go_wp2_with fail
       go_ret
       exact ⟨by rw [HC.out]; rfl, G5.out.1⟩
      | true =>
       go_wp2_with fail
       refine (E5.out V5 G5.out.1).mono ?_
       rintro e V6 ⟨rfl, hb⟩
       have G6 := zH (zJ (G5.out.1.trans (hb.mono G5.out.1.size)) (G5.out.2.below hb G5.out.2.lt))
       clear hb E5 G5
       have d60 := fun j => G6.out.2.cell j
       go_wp2_with fail
       go_ret
       exact ⟨by rw [HC.out]; rfl, G6.out.1⟩
theorem targetsRight_any (l : List ByteArray) (v : Value) (w : World) (hz : totT l <= 1000000000) (h1 : TxtAt w v l) :
  Calls Tryz.prog 87 #[v] w fun e w' => e = .returned (.bool (tgOk l && inB l.length 1 3)) /\ Below w.heap.size w w' := by
 have E := textsFit_any l v 3 w hz h1
 have hll := Nat.le_trans (tot_len l) hz
 obtain ⟨pa, pc, rfl, -⟩ := h1
 obtain ⟨lp, hlp⟩ := zE (l.length)
 obtain ⟨R, hR⟩ := zE ((tgOk l && inB l.length 1 3))
 obtain ⟨B, hB⟩ := zE (txOk l 3)
 have HR : Hid ((tgOk l && inB l.length 1 3) = R) := hR
 have HB : Hid (txOk l 3 = B) := hB
 have HL : Hid (l.length = lp) := hlp
 rw [hR]
 rw [hlp] at E hll |-
 rw [hB] at E
 clear hB hz hlp hR
 by_cases h0 : 0 < lp
 ·have h0i : (0 : Int) < (lp : Int) := by omega
  have HF : Hid (R = B) := by
   have e : inB (l.length : Int) 1 3 = decide (l.length <= 3) := by
    have := HL.out
    unfold inB
    by_cases h3 : l.length <= 3
    ·rw [decide_eq_true h3]; exact decide_eq_true (by omega)
    ·rw [decide_eq_false h3]; exact decide_eq_false (by omega)
   show R = B
   rw [<- HR.out, <- HB.out, e]
   rfl
  clear h0
  go_enter Tryz.func87, Tryz.ntmps87
  go_wp2_with fail
  refine E.mono ?_
  rintro e w2 ⟨rfl, hb⟩
  have G2 : Hid (Below w.heap.size w w2) := hb
  clear E hb
  cases B with
  | false =>
   go_wp2_with fail
   go_ret
   exact ⟨by rw [HF.out]; rfl, G2.out⟩
  | true =>
   go_wp2_with fail
   go_ret
   exact ⟨by rw [HF.out]; rfl, G2.out⟩
 ·have h0i : ¬ (0 : Int) < (lp : Int) := by omega
  have HF : Hid (R = false) := by
   have e : inB (l.length : Int) 1 3 = false := by
    have := HL.out
    unfold inB
    exact decide_eq_false (by omega)
   show R = false
   rw [<- HR.out, e]
   simp
  clear h0
  go_enter Tryz.func87, Tryz.ntmps87
  go_wp2_with fail
  go_ret
  exact ⟨by rw [HF.out]; rfl, Below.refl _ _⟩
theorem implAskOk_any (c : Ak) (v : Value) (w : World) (hz : wtAk c <= 1000000000) (ha : AkAt w v c) :
  Calls Tryz.prog 72 #[v] w fun e w' => e = .returned (.bool (askOk c)) /\ Below w.heap.size w w' := by
 obtain ⟨pv, rfl, h1⟩ := ha
 obtain ⟨pa, pc, hpa⟩ : ∃ ao cap, pv = .slice ao c.tg.length cap := by obtain ⟨ao, cap, h, _⟩ := h1; exact ⟨ao, cap, h⟩
 have hll := Nat.le_trans (tot_len c.tg) hz
 obtain ⟨lp, hlp⟩ := zE (c.tg.length)
 rw [hlp] at hpa hll
 subst hpa
 obtain ⟨B1, hB1⟩ := zE ((tgOk c.tg && inB (c.tg.length : Int) 1 3))
 have E1 : Hid (∀ W, Below w.heap.size w W -> Calls Tryz.prog 87 #[.slice pa lp pc] W fun e w' => e = .returned (.bool B1) /\ Below W.heap.size W w') := fun W hb => by rw [<- hB1]; exact targetsRight_any c.tg _ W hz (h1.below hb)
 obtain ⟨B2, hB2⟩ := zE (inB c.plan 0 99)
 have E2 : Hid (∀ W, Below w.heap.size w W -> Calls Tryz.prog 69 #[.int .i64 99, .int .i64 c.plan] W fun e w' => e = .returned (.bool B2) /\ Below W.heap.size W w') := fun W hb => by rw [<- hB2]; exact upTo_any _ _ W
 obtain ⟨B3, hB3⟩ := zE (inB c.want 0 3)
 have E3 : Hid (∀ W, Below w.heap.size w W -> Calls Tryz.prog 69 #[.int .i64 3, .int .i64 c.want] W fun e w' => e = .returned (.bool B3) /\ Below W.heap.size W w') := fun W hb => by rw [<- hB3]; exact upTo_any _ _ W
 obtain ⟨B4, hB4⟩ := zE (inB c.nonce 0 1000000000)
 have E4 : Hid (∀ W, Below w.heap.size w W -> Calls Tryz.prog 69 #[.int .i64 1000000000, .int .i64 c.nonce] W fun e w' => e = .returned (.bool B4) /\ Below W.heap.size W w') := fun W hb => by rw [<- hB4]; exact upTo_any _ _ W
 obtain ⟨B5, hB5⟩ := zE (inB c.time 0 9999)
 have E5 : Hid (∀ W, Below w.heap.size w W -> Calls Tryz.prog 69 #[.int .i64 9999, .int .i64 c.time] W fun e w' => e = .returned (.bool B5) /\ Below W.heap.size W w') := fun W hb => by rw [<- hB5]; exact upTo_any _ _ W
 have HC : Hid (askOk c = (B1 && (B2 && (B3 && (B4 && B5))))) := by show askOk c = _; unfold askOk; rw [hB1, hB2, hB3, hB4, hB5]
 clear hB1 hB2 hB3 hB4 hB5 h1 hlp hz
 unfold akV
 go_enter Tryz.func72, Tryz.ntmps72
 go_wp2_with fail
 obtain ⟨V0, hV⟩ : ∃ V, V = w.alloc (Obj.cells #[.slice pa lp pc, .int .i64 c.plan, .int .i64 c.want, .int .i64 c.nonce, .int .i64 c.time, .bool c.cac] 39) := ⟨_, rfl⟩
 rw [<- hV]
 have G0 : Hid (Below w.heap.size w V0 /\ Blk V0 w.heap.size 39 #[.slice pa lp pc, .int .i64 c.plan, .int .i64 c.want, .int .i64 c.nonce, .int .i64 c.time, .bool c.cac]) := by rw [hV]; exact ⟨(Below.refl _ _).alloc (Nat.le_refl _) _, Blk.new w _ _⟩
 clear hV
 refine (E1.out V0 G0.out.1).mono ?_
 rintro e V1 ⟨rfl, hb⟩
 have G1 := zH (zJ (G0.out.1.trans (hb.mono G0.out.1.size)) (G0.out.2.below hb G0.out.2.lt))
 clear hb E1 G0
 have d10 := fun j => G1.out.2.cell j
 cases B1 with
 | false =>
  go_wp2_with fail
  go_ret
  exact ⟨by rw [HC.out]; rfl, G1.out.1⟩
 | true =>
  go_wp2_with fail
  refine (E2.out V1 G1.out.1).mono ?_
  rintro e V2 ⟨rfl, hb⟩
  have G2 := zH (zJ (G1.out.1.trans (hb.mono G1.out.1.size)) (G1.out.2.below hb G1.out.2.lt))
  clear hb E2 G1
  have d20 := fun j => G2.out.2.cell j
  cases B2 with
  | false =>
   go_wp2_with fail
   go_ret
   exact ⟨by rw [HC.out]; rfl, G2.out.1⟩
  | true =>
   go_wp2_with fail
   refine (E3.out V2 G2.out.1).mono ?_
   rintro e V3 ⟨rfl, hb⟩
   have G3 := zH (zJ (G2.out.1.trans (hb.mono G2.out.1.size)) (G2.out.2.below hb G2.out.2.lt))
   clear hb E3 G2
   have d30 := fun j => G3.out.2.cell j
   cases B3 with
   | false =>
    go_wp2_with fail
    go_ret
    exact ⟨by rw [HC.out]; rfl, G3.out.1⟩
   | true =>
    go_wp2_with fail
    refine (E4.out V3 G3.out.1).mono ?_
    rintro e V4 ⟨rfl, hb⟩
    have G4 := zH (zJ (G3.out.1.trans (hb.mono G3.out.1.size)) (G3.out.2.below hb G3.out.2.lt))
    clear hb E4 G3
    have d40 := fun j => G4.out.2.cell j
    cases B4 with
    | false =>
     go_wp2_with fail
     go_ret
     exact ⟨by rw [HC.out]; rfl, G4.out.1⟩
    | true =>
     go_wp2_with fail
     refine (E5.out V4 G4.out.1).mono ?_
     rintro e V5 ⟨rfl, hb⟩
     have G5 := zH (zJ (G4.out.1.trans (hb.mono G4.out.1.size)) (G4.out.2.below hb G4.out.2.lt))
     clear hb E5 G4
     have d50 := fun j => G5.out.2.cell j
     go_wp2_with fail
     go_ret
     exact ⟨by rw [HC.out]; rfl, G5.out.1⟩
end Go.Proofs.YtagmnlmfoanelaaGreat
namespace Go.Proofs.YtagmnlmfoanelaaGreat
open Go.RowKit Der
set_option linter.unusedVariables false
theorem rowByt_any (n : Nat) (ls : List ByteArray) (v : Value) (w : World) (hz : ls.length <= 20000000) (hwd : ∀ s ∈ ls, s.size <= 20000000) (hx : TxtAt w v ls) :
  Calls Tryz.prog 91 #[v, .func (.func 92) #[] #[]] w fun e w' => ToIt w (n + 1) (lstJ (ls.map bytJ)) e w' := by
 obtain ⟨ax, cx, rfl, hcell⟩ := id hx
 obtain ⟨l, hle⟩ := zE (ls.length)
 have HX : Hid ((∀ j, j < ls.length -> ∃ g, ax = some ⟨g, 0, none⟩ /\ g < w.heap.size /\ w.cell? ⟨g, j, none⟩ = some (.string (ls.getD j ByteArray.empty))) /\ ls.length = l /\ (∀ s ∈ ls, s.size <= 20000000)) := ⟨hcell, hle, hwd⟩
 have hlb : l <= 20000000 := by rw [<- hle]; exact hz
 rw [hle]
 clear hx hz hle hcell hwd
 obtain ⟨ks, hks⟩ : ∃ ks : List (It (n + 1)), ls.map bytJ = ks := ⟨_, rfl⟩
 rw [hks]
 have HK0 : Hid (ls.map bytJ = ks /\ ks.length = l) := ⟨hks, by rw [<- hks, List.length_map]; exact HX.out.2.1⟩
 clear hks
 go_enter Tryz.func91, Tryz.ntmps91
 go_wp2_with fail
 obtain ⟨W3, hW3⟩ : ∃ W, W = w.alloc (Obj.cells #[Value.int IntKind.i64 0, Value.string ⟨#[]⟩, Value.slice none 0 0] 87) := ⟨_, rfl⟩
 rw [<- hW3]
 have H3 : Hid (Below w.heap.size w W3 /\ W3.heap.size = w.heap.size + 1 /\ Blk3 W3 w.heap.size (.int .i64 0) (.string ⟨#[]⟩) (.slice none 0 0)) := by rw [hW3]; exact ⟨(Below.refl _ _).alloc (Nat.le_refl _) _, Array.size_push _, heap_alloc_new w _⟩
 clear hW3
 go_loopw [5, 10] (fun kv iv wr => ∃ k : Nat, k <= l /\ iv = .int .i64 k /\ Hid (Blk3 wr w.heap.size (.int .i64 0) (.string ⟨#[]⟩) (.slice none 0 0) /\ GrowK wr (w.heap.size + 1) n kv (ks.take k) /\ Below w.heap.size w wr /\ w.heap.size + 1 <= wr.heap.size)) (fun _ iv _ => l - (intOf iv).toNat)
 case atStart => exact ⟨0, Nat.zero_le _, rfl, H3.out.2.2, GrowK.nil _ _ _, H3.out.1, by rw [H3.out.2.1]; exact Nat.le_refl _⟩
 case round =>
  obtain ⟨k, hk, rfl, HK⟩ := hrel
  clear H3
  obtain ⟨axe, cape, hkv⟩ := HK.out.2.1.shape
  obtain ⟨le, hle⟩ := zE ((ks.take k).length)
  have hlek : le = k := by rw [<- hle, List.length_take]; have := HK0.out.2; omega
  rw [hle, hlek] at hkv
  subst hkv
  clear hle hlek
  by_cases hlt : k < l
  ·have hlti : (k : Int) < (l : Int) := by omega
   have hk0 : (0 : Int) <= (k : Int) := by omega
   have hj0 : k < ls.length := by rw [HX.out.2.1]; exact hlt
   have hj1 : k < ks.length := by rw [HK0.out.2]; exact hlt
   obtain ⟨g1, hax, hg1, hc1⟩ := HX.out.1 k hj0
   have c10 : wr.cell? ⟨g1, k, none⟩ = some (.string (ls.getD k ByteArray.empty)) := (HK.out.2.2.1.cell (p := ⟨g1, k, none⟩) hg1).trans hc1
   have hm : (ls.getD k ByteArray.empty) ∈ ls := by rw [List.getD_eq_getElem?_getD, List.getElem?_eq_getElem hj0]; exact List.getElem_mem _
   obtain ⟨x, hxe⟩ := zE ((ls.getD k ByteArray.empty))
   rw [hxe] at c10 hm
   have hkx : ks[k] = bytJ x := by
    rw [<- hxe]
    have h := HK0.out.1
    subst h
    simp [List.getD, hj0]
   have E := bytesItem_any x wr (HX.out.2.2 x hm)
   obtain ⟨s3, hs3⟩ : ∃ s3 : ByteArray, x = s3 := ⟨_, rfl⟩
   have HT : Hid (It.tag ks[k] = 4 /\ (⟨(It.text ks[k]).toArray⟩ : ByteArray) = s3 /\ It.kids ks[k] = []) := by
    rw [hkx]
    exact ⟨rfl, by rw [<- hs3]; show (⟨x.data.toList.toArray⟩ : ByteArray) = x; simp, rfl⟩
   have E3 : Calls Tryz.prog 92 #[.string x] wr fun e w' => e = .returned (.agg #[.int .i64 4, .string s3, .slice none 0 0]) /\ Below wr.heap.size wr w' := by
    refine E.mono ?_
    rintro e w' ⟨rfl, hb⟩
    exact ⟨by rw [<- hs3], hb⟩
   clear E
   have htl : (ks.take k).length = k := by rw [List.length_take]; omega
   subst hax
   clear hc1 hg1 hxe hkx hm hs3
   go_wp2_with fail
   refine E3.mono ?_
   rintro e w3 ⟨rfl, hb3⟩
   have H4 : Hid (Below wr.heap.size wr w3 /\ OwnK w3 wr.heap.size n (.slice none 0 0) (It.kids ks[k]) []) := ⟨hb3, by rw [HT.out.2.2]; exact own_none _ _ _⟩
   clear E3 hb3 c10
   go_wp2_with (at_builtin; refine wpList_append_item rfl _ _ rfl (w.heap.size + 1) n (.slice axe k cape) (ks.take k) ks[k] 4 s3 (.slice none 0 0) [] HT.out.1 HT.out.2.1 rfl _ rfl (by simp) HK.out.2.1 H4.out.1 H4.out.2 HK.out.2.2.2 (by omega) ?_)
   intro g cap w6 hG6 hgrow6
   have H6 : Hid (Blk3 w6 w.heap.size (.int .i64 0) (.string ⟨#[]⟩) (.slice none 0 0) /\ GrowK w6 (w.heap.size + 1) n (.slice (some ⟨g, 0, none⟩) (k + 1) cap) (ks.take (k + 1)) /\ Below w.heap.size w w6 /\ w.heap.size + 1 <= w6.heap.size) := by
    have hb5 := H4.out.1.alloc H4.out.1.size (Obj.cells #[Value.int IntKind.i64 4, Value.string s3, Value.slice none 0 0] 87)
    have hbw := HK.out.2.2.1.trans (hb5.mono HK.out.2.2.1.size)
    have e := List.take_append_getElem hj1
    have hkb := HK.out.2.1.lt
    try rw [htl] at hG6
    try rw [e] at hG6
    exact ⟨(HK.out.1.below hb5).grown hgrow6 (fun q => by have := (hkb _ q.symm).1; omega), hG6, hbw.grown hgrow6 hbw.size (fun q hq => by have := (hkb q hq).1; omega), Nat.le_trans HK.out.2.2.2 (Nat.le_trans hb5.size hgrow6.size)⟩
   try rw [htl]
   clear hG6 hgrow6 H4 HK
   go_wp2_with fail
   exact ⟨⟨k + 1, by omega, by go_num, H6⟩, by simp [intOf]; omega⟩
  ·have hlti : ¬ (k : Int) < (l : Int) := by omega
   obtain ⟨⟨r0, r1, r2⟩, rf⟩ := cell_in HK.out.1
   have HE : Hid (∃ fp, OwnK wr (w.heap.size + 1) (n + 1) (.slice axe k cape) ks fp) := by
    have h := HK.out.2.1
    rw [List.take_of_length_le (by have := HK0.out.2; omega)] at h
    exact h.own
   go_wp2_with fail
   refine bodyPost_ret (v := .agg #[.int .i64 48, .string ⟨#[]⟩, .slice axe k cape]) (by simp [results, Tryz.results91, go_sem, r0, r1, r2]; try rfl) rfl ?_
   obtain ⟨fp, hfp⟩ := HE.out
   refine ⟨.slice axe k cape, fp, rfl, ?_, ?_⟩
   ·refine OwnK.base (base := w.heap.size + 1) (by omega) (hfp.same fun b hb => ?_)
    have h1 := (OwnK.lt hfp b hb).1
    rw [heap_setCell_other _ _ _ _ (by show b ≠ w.heap.size; omega), heap_setCell_other _ _ _ _ (by show b ≠ w.heap.size; omega), heap_setCell_other _ _ _ _ (by show b ≠ w.heap.size; omega)]
   ·exact ((HK.out.2.2.1.setCell (p := ⟨w.heap.size, 0, none⟩) (Nat.le_refl _) _).setCell (p := ⟨w.heap.size, 1, none⟩) (Nat.le_refl _) _).setCell (p := ⟨w.heap.size, 2, none⟩) (Nat.le_refl _) _
theorem bytsI_any (n : Nat) (ls : List ByteArray) (v : Value) (w : World) (hz : ls.length <= 20000000) (hwd : WdT ls) (hx : TxtAt w v ls) :
  Calls Tryz.prog 46 #[v] w fun e w' => ToIt w (n + 1) (lstJ (ls.map bytJ)) e w' := by
 obtain ⟨ax, cx, rfl, hcell⟩ := id hx
 obtain ⟨l, hle⟩ := zE (ls.length)
 have HX : Hid ((∀ j, j < ls.length -> ∃ g, ax = some ⟨g, 0, none⟩ /\ g < w.heap.size /\ w.cell? ⟨g, j, none⟩ = some (.string (ls.getD j ByteArray.empty))) /\ ls.length = l /\ WdT ls) := ⟨hcell, hle, hwd⟩
 have hlb : l <= 20000000 := by rw [<- hle]; exact hz
 rw [hle]
 clear hx hz hle hcell hwd
 obtain ⟨ks, hks⟩ : ∃ ks : List (It (n + 1)), ls.map bytJ = ks := ⟨_, rfl⟩
 rw [hks]
 have HK0 : Hid (ls.map bytJ = ks /\ ks.length = l) := ⟨hks, by rw [<- hks, List.length_map]; exact HX.out.2.1⟩
 clear hks
 go_enter Tryz.func46, Tryz.ntmps46
 go_wp2_with fail
 obtain ⟨W3, hW3⟩ : ∃ W, W = (w.alloc (Obj.cells #[Value.int IntKind.i64 0, Value.string { data := #[] }, Value.slice none 0 0] 87)).alloc (Obj.cells #[Value.int IntKind.i64 48, Value.string { data := #[] }, Value.slice none 0 0] 87) := ⟨_, rfl⟩
 rw [<- hW3]
 have H3 : Hid (Below w.heap.size w W3 /\ W3.heap.size = w.heap.size + 2 /\ Blk3 W3 w.heap.size (.int .i64 0) (.string ⟨#[]⟩) (.slice none 0 0) /\ Blk3 W3 (w.heap.size + 1) (.int .i64 48) (.string ⟨#[]⟩) (.slice none 0 0)) := two_blk w _ _ _ _ _ _ W3 hW3
 clear hW3
 go_loopw [4] (fun iv wr => ∃ k : Nat, k <= l /\ iv = .int .i64 k /\ Hid (∃ kv : Value, Blk3 wr w.heap.size (.int .i64 0) (.string ⟨#[]⟩) (.slice none 0 0) /\ Blk3 wr (w.heap.size + 1) (.int .i64 48) (.string ⟨#[]⟩) kv /\ GrowK wr (w.heap.size + 2) n kv (ks.take k) /\ Below w.heap.size w wr /\ w.heap.size + 2 <= wr.heap.size)) (fun iv _ => l - (intOf iv).toNat)
 case atStart => exact ⟨0, Nat.zero_le _, rfl, _, H3.out.2.2.1, H3.out.2.2.2, GrowK.nil _ _ _, H3.out.1, by rw [H3.out.2.1]; exact Nat.le_refl _⟩
 case round =>
  obtain ⟨k, hk, rfl, HR⟩ := hrel
  obtain ⟨kv, hr1, hr2, hrG, hrB, hrs⟩ := HR.out
  have HK : Hid (Blk3 wr w.heap.size (.int .i64 0) (.string ⟨#[]⟩) (.slice none 0 0) /\ Blk3 wr (w.heap.size + 1) (.int .i64 48) (.string ⟨#[]⟩) kv /\ GrowK wr (w.heap.size + 2) n kv (ks.take k) /\ Below w.heap.size w wr /\ w.heap.size + 2 <= wr.heap.size) := ⟨hr1, hr2, hrG, hrB, hrs⟩
  clear HR hr1 hr2 hrG hrB hrs H3
  by_cases hlt : k < l
  ·have hlti : (k : Int) < (l : Int) := by omega
   have hk0 : (0 : Int) <= (k : Int) := by omega
   have hj0 : k < ls.length := by rw [HX.out.2.1]; exact hlt
   have hj1 : k < ks.length := by rw [HK0.out.2]; exact hlt
   obtain ⟨g1, hax, hg1, hc1⟩ := HX.out.1 k hj0
   have c10 : wr.cell? ⟨g1, k, none⟩ = some (.string (ls.getD k ByteArray.empty)) := (HK.out.2.2.2.1.cell (p := ⟨g1, k, none⟩) hg1).trans hc1
   have hm : (ls.getD k ByteArray.empty) ∈ ls := by rw [List.getD_eq_getElem?_getD, List.getElem?_eq_getElem hj0]; exact List.getElem_mem _
   obtain ⟨x, hxe⟩ := zE ((ls.getD k ByteArray.empty))
   rw [hxe] at c10 hm
   have hkx : ks[k] = bytJ x := by
    rw [<- hxe]
    have h := HK0.out.1
    subst h
    simp [List.getD, hj0]
   have E := bytes_any x wr.drew
   obtain ⟨s3, hs3⟩ : ∃ s3 : ByteArray, x = s3 := ⟨_, rfl⟩
   have HT : Hid (It.tag ks[k] = 4 /\ (⟨(It.text ks[k]).toArray⟩ : ByteArray) = s3 /\ It.kids ks[k] = []) := by
    rw [hkx]
    exact ⟨rfl, by rw [<- hs3]; show (⟨x.data.toList.toArray⟩ : ByteArray) = x; simp, rfl⟩
   have E3 : Calls Tryz.prog 67 #[.string x] wr.drew fun e w' => e = .returned (.agg #[.int .i64 4, .string s3, .slice none 0 0]) /\ Below wr.heap.size wr w' := by
    refine E.mono ?_
    rintro e w' ⟨rfl, hb⟩
    exact ⟨by rw [<- hs3], (Below.refl wr.heap.size wr).drew.trans hb⟩
   obtain ⟨⟨_, _, y2⟩, fy⟩ := cell_in HK.out.2.1
   have htl : (ks.take k).length = k := by rw [List.length_take]; omega
   have HG1 : Hid (g1 < w.heap.size) := hg1
   have HNE : Hid (∀ q, q < w.heap.size + 2 -> some q ≠ kv.ownBlock) := fun q hq e => by have := (HK.out.2.2.1.lt q e.symm).1; omega
   subst hax
   clear hc1 hg1 hxe hkx hm E hs3
   go_wp2_with fail
   have hcs : wr.cell? ⟨w.heap.size + 1, 2, none⟩ = some kv /\ wr.cell? ⟨g1, k, none⟩ = some (.string x) := ⟨y2, c10⟩
   go_region_law (first
    | (refine step_call rfl 67 _ _ rfl #[.string x] rfl (by kernel_rfl) ?_; refine E3.mono ?_; rintro e w3 ⟨rfl, hb3⟩; have ho3 : OwnK w3 wr.heap.size n (.slice none 0 0) (It.kids ks[k]) [] := (by rw [HT.out.2.2]; exact own_none _ _ _); have hc3 := both_below hcs (by have := HK.out.2.2.2.2; omega) (by have := HG1.out; have := HK.out.2.2.2.1.size; omega) hb3; have hy3 := hc3.1; have hc4 := fun o => both_below hcs (by have := HK.out.2.2.2.2; omega) (by have := HG1.out; have := HK.out.2.2.2.1.size; omega) (hb3.alloc hb3.size o); have hy4 := fun o => (hc4 o).1; clear hc3; dsimp only)
    | (refine step_append_item0 rfl _ _ rfl (w.heap.size + 2) n kv (ks.take k) ks[k] 4 s3 (.slice none 0 0) [] HT.out.1 HT.out.2.1 rfl _ rfl rfl HK.out.2.2.1 hb3 ho3 HK.out.2.2.2.2 (by omega) ?_; intro g cap w6 hG6 hgrow6; have hy6 := (both_grown (hc4 _) hgrow6 (HNE.out _ (by omega)) (HNE.out _ (by have := HG1.out; omega))).1; have fz6 := (cell_in ((HK.out.2.1.below (hb3.alloc hb3.size _)).grown hgrow6 (HNE.out _ (by omega)))).2))
   all_goals (
    have H6 : Hid (Blk3 w6 w.heap.size (.int .i64 0) (.string ⟨#[]⟩) (.slice none 0 0) /\ Blk3 w6 (w.heap.size + 1) (.int .i64 48) (.string ⟨#[]⟩) kv /\ GrowK w6 (w.heap.size + 2) n (.slice (some ⟨g, 0, none⟩) (k + 1) cap) (ks.take (k + 1)) /\ Below w.heap.size w w6 /\ w.heap.size + 2 <= w6.heap.size) := by
     have hb5 := hb3.alloc hb3.size (Obj.cells #[Value.int IntKind.i64 4, Value.string s3, Value.slice none 0 0] 87)
     have hbw := HK.out.2.2.2.1.trans (hb5.mono HK.out.2.2.2.1.size)
     have e := List.take_append_getElem hj1
     rw [htl, e] at hG6
     exact ⟨(HK.out.1.below hb5).grown hgrow6 (HNE.out _ (by omega)), (HK.out.2.1.below hb5).grown hgrow6 (HNE.out _ (by omega)), hG6, hbw.grown hgrow6 hbw.size (fun q hq => by have := (HK.out.2.2.1.lt q hq).1; omega), Nat.le_trans HK.out.2.2.2.2 (Nat.le_trans hb5.size hgrow6.size)⟩
    clear hG6 hgrow6 hy6 fz6 hy3 hc4 hy4 ho3 hb3 hcs y2 c10 E3
    go_wp2_with fail
    refine ⟨⟨k + 1, by omega, by go_num, .slice (some ⟨g, 0, none⟩) (k + 1) cap, ?_, ?_, ?_, ?_, ?_⟩, by simp [intOf]; omega⟩
    ·exact H6.out.1.other (by show w.heap.size ≠ w.heap.size + 1; omega) _
    ·exact H6.out.2.1.set _
    ·exact H6.out.2.2.1.out fun b hb => heap_setCell_other _ _ _ _ (by show b ≠ w.heap.size + 1; omega)
    ·exact H6.out.2.2.2.1.setCell (p := ⟨w.heap.size + 1, 2, none⟩) (by show w.heap.size <= w.heap.size + 1; omega) _
    ·exact Nat.le_trans H6.out.2.2.2.2 (((Below.refl 0 w6).setCell (p := ⟨w.heap.size + 1, 2, none⟩) (Nat.zero_le _) _).size))
  ·have hlti : ¬ (k : Int) < (l : Int) := by omega
   obtain ⟨⟨q0, q1, q2⟩, _⟩ := cell_in HK.out.2.1
   obtain ⟨⟨r0, r1, r2⟩, rf⟩ := cell_in HK.out.1
   have HE : Hid (∃ fp, OwnK wr (w.heap.size + 2) (n + 1) kv ks fp) := by
    have h := HK.out.2.2.1
    rw [List.take_of_length_le (by have := HK0.out.2; omega)] at h
    exact h.own
   obtain ⟨axe, cape, hkv⟩ := HK.out.2.2.1.shape
   obtain ⟨le, hle⟩ := zE ((ks.take k).length)
   rw [hle] at hkv
   subst hkv
   clear hle
   go_wp2_with fail
   refine bodyPost_ret (v := .agg #[.int .i64 48, .string ⟨#[]⟩, .slice axe le cape]) (by simp [results, Tryz.results46, go_sem, r0, r1, r2]; try rfl) rfl ?_
   obtain ⟨fp, hfp⟩ := HE.out
   refine ⟨.slice axe le cape, fp, rfl, ?_, ?_⟩
   ·refine OwnK.base (base := w.heap.size + 2) (by omega) (hfp.same fun b hb => ?_)
    have h1 := (OwnK.lt hfp b hb).1
    rw [heap_setCell_other _ _ _ _ (by show b ≠ w.heap.size; omega), heap_setCell_other _ _ _ _ (by show b ≠ w.heap.size; omega), heap_setCell_other _ _ _ _ (by show b ≠ w.heap.size; omega)]
   ·exact ((HK.out.2.2.2.1.setCell (p := ⟨w.heap.size, 0, none⟩) (Nat.le_refl _) _).setCell (p := ⟨w.heap.size, 1, none⟩) (Nat.le_refl _) _).setCell (p := ⟨w.heap.size, 2, none⟩) (Nat.le_refl _) _
theorem listOf_any (a : Option Addr) (l cx : Nat) (w : World) : Calls Tryz.prog 90 #[.slice a l cx] w fun e w' => e = .returned (.agg #[.int .i64 48, .string ⟨#[]⟩, .slice a l cx]) /\ Below w.heap.size w w' := by
 go_enter Tryz.func90, Tryz.ntmps90
 go_wp2_with fail
 refine bodyPost_ret (v := .agg #[.int .i64 48, .string ⟨#[]⟩, .slice a l cx]) (by simp [results, Tryz.results90, go_sem]; try rfl) rfl ⟨rfl, ?_⟩
 exact (Below.refl _ _).alloc (Nat.le_refl _) _
end Go.Proofs.YtagmnlmfoanelaaGreat
