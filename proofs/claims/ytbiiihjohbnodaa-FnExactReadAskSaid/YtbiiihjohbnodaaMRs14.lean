/-
  Texts of the proof.
-/
import Derived.Test.YtbiiihjohbnodaaMRs3
set_option maxRecDepth 100000
set_option maxHeartbeats 25600000
namespace Go.Proofs.Ytbiiihjohbnodaa
open Go.RowKit
set_option linter.unusedVariables false
structure Ak where
 tg : List ByteArray
 plan : Int
 want : Int
 nonce : Int
 time : Int
 cac : Bool
def akV (c : Ak) (p : Value) : Value := .agg #[p, .int .i64 c.plan, .int .i64 c.want, .int .i64 c.nonce, .int .i64 c.time, .bool c.cac]
def AkAt (w : World) (v : Value) (c : Ak) : Prop := ∃ p, v = akV c p /\ TxtAt w p c.tg
theorem AkAt.below {w w' : World} {v : Value} {c : Ak} (h : AkAt w v c) (hb : Below w.heap.size w w') : AkAt w' v c := by
 obtain ⟨p, hv, h1⟩ := h
 exact ⟨p, hv, h1.below hb⟩
theorem AkAt.shape {w : World} {v : Value} {c : Ak} (h : AkAt w v c) : ∃ p q, v = akV c (.slice p c.tg.length q) := by
 obtain ⟨pv, hv, ⟨p, q, h1, _⟩⟩ := h
 exact ⟨p, q, by rw [hv, h1]⟩
def OwnAk (w : World) (base : Nat) (v : Value) (c : Ak) : Prop := ∃ p, v = akV c p /\ OwnT w base p c.tg
theorem OwnAk.at {w : World} {base : Nat} {v : Value} {c : Ak} (h : OwnAk w base v c) : AkAt w v c := by
 obtain ⟨p, hv, h1⟩ := h
 exact ⟨p, hv, h1.at⟩
theorem OwnAk.stays {w w' : World} {base : Nat} {v : Value} {c : Ak} (h : OwnAk w base v c) (hb : Below w.heap.size w w') : OwnAk w' base v c := by
 obtain ⟨p, hv, h1⟩ := h
 exact ⟨p, hv, h1.stays hb⟩
theorem OwnAk.base {w : World} {b b' : Nat} {v : Value} {c : Ak} (h : OwnAk w b v c) (hb : b' <= b) : OwnAk w b' v c := by
 obtain ⟨p, hv, h1⟩ := h
 exact ⟨p, hv, h1.base hb⟩
def wtAk (c : Ak) : Nat := totT c.tg
def WdAk (c : Ak) : Prop := Wd [c.plan, c.want, c.nonce, c.time] /\ WdT c.tg /\ c.tg.length <= 9223372036854775807
def tgOk (l : List ByteArray) : Bool := decide (∀ j, j < l.length -> (l.getD j ByteArray.empty).size <= 400)
theorem tg_no {l : List ByteArray} {k : Nat} (h : k < l.length) (h2 : ¬ (l.getD k ByteArray.empty).size <= 400) : tgOk l = false := decide_eq_false fun q => h2 (q k h)
theorem tg_yes {l : List ByteArray} (h : ∀ j, j < l.length -> (l.getD j ByteArray.empty).size <= 400) : tgOk l = true := decide_eq_true h
def txOk (l : List ByteArray) (m : Nat) : Bool := tgOk l && decide (l.length <= m)
def IxP (b : Bool) (w : World) (e : Ending) (w' : World) : Prop := ∃ n : Int, e = .returned (.int .i64 n) /\ decide (0 <= n) = b /\ Below w.heap.size w w'
theorem tooLong_any (x : ByteArray) (w : World) (hx : x.size <= 1000000000) :
  Calls Try.prog 106 #[.string x] w fun e w' => e = .returned (.bool (decide (400 < x.size))) /\ Below w.heap.size w w' := by
 by_cases h : 400 < x.size
 ·have hi : (400 : Int) < (x.size : Int) := by omega
  have HF : Hid (decide (400 < x.size) = true) := decide_eq_true h
  clear h
  go_enter Try.func106, Try.ntmps106
  go_wp2_with fail
  go_ret
  exact ⟨by rw [HF.out]; rfl, Below.refl _ _⟩
 ·have hi : ¬ (400 : Int) < (x.size : Int) := by omega
  have HF : Hid (decide (400 < x.size) = false) := decide_eq_false h
  clear h
  go_enter Try.func106, Try.ntmps106
  go_wp2_with fail
  go_ret
  exact ⟨by rw [HF.out]; rfl, Below.refl _ _⟩
theorem indexLong_any (l : List ByteArray) (v : Value) (w : World) (hz : totT l <= 1000000000) (h1 : TxtAt w v l) :
  Calls Try.prog 121 #[v, .func (.func 106) #[] #[]] w fun e w' => IxP (!tgOk l) w e w' := by
 obtain ⟨pa, pc, rfl, hcell⟩ := h1
 have hll := Nat.le_trans (tot_len l) hz
 obtain ⟨lp, hlp⟩ := zE (l.length)
 have HT : Hid ((∀ j, j < l.length -> ∃ g, pa = some ⟨g, 0, none⟩ /\ g < w.heap.size /\ w.cell? ⟨g, j, none⟩ = some (.string (l.getD j ByteArray.empty))) /\ l.length = lp /\ totT l <= 1000000000) := ⟨hcell, hlp, hz⟩
 rw [hlp] at hll |-
 clear hcell hlp hz
 go_enter Try.func121, Try.ntmps121
 go_wp2_with fail
 go_loopw [8] (fun iv wr => ∃ k : Nat, k <= lp /\ iv = .int .i64 k /\ Hid (∀ j, j < k -> (l.getD j ByteArray.empty).size <= 400) /\ Hid (Below w.heap.size w wr)) (fun iv _ => lp - (intOf iv).toNat)
 case atStart => exact ⟨0, Nat.zero_le _, rfl, fun j hj => absurd hj (Nat.not_lt_zero _), Below.refl _ _⟩
 case round =>
  obtain ⟨k, hk, rfl, HL, G1⟩ := hrel
  by_cases hlt : k < lp
  ·obtain ⟨g, hpg, hgw, hcs⟩ := HT.out.1 k (by rw [HT.out.2.1]; exact hlt)
   have hc1 : wr.cell? ⟨g, k, none⟩ = some (.string (l.getD k ByteArray.empty)) := (G1.out.cell (p := ⟨g, k, none⟩) hgw).trans hcs
   have hsx : (l.getD k ByteArray.empty).size <= 1000000000 := by
    have hm : l.getD k ByteArray.empty ∈ l := by rw [List.getD_eq_getElem?_getD, List.getElem?_eq_getElem (by rw [HT.out.2.1]; exact hlt)]; exact List.getElem_mem _
    exact Nat.le_trans (tot_mem l _ hm) HT.out.2.2
   have hki : (k : Int) < (lp : Int) := by omega
   have hk0 : (0 : Int) <= (k : Int) := by omega
   obtain ⟨x, hx⟩ := zE (l.getD k ByteArray.empty)
   rw [hx] at hc1 hsx
   have HX : Hid (l.getD k ByteArray.empty = x) := hx
   subst hpg
   clear hcs hx hgw
   have E := tooLong_any x wr hsx
   by_cases h4 : 400 < x.size
   ·rw [decide_eq_true h4] at E
    have HF : Hid (tgOk l = false) := tg_no (k := k) (by rw [HT.out.2.1]; exact hlt) (by rw [HX.out]; omega)
    clear h4 hsx
    go_wp2_with fail
    refine E.mono ?_
    rintro e w2 ⟨rfl, hb⟩
    have G2 : Hid (Below w.heap.size w w2) := G1.out.trans (hb.mono G1.out.size)
    clear E hb G1
    go_wp2_with fail
    go_ret
    exact ⟨_, rfl, by rw [HF.out]; exact decide_eq_true hk0, G2.out⟩
   ·rw [decide_eq_false h4] at E
    have HN : Hid (∀ j, j < k + 1 -> (l.getD j ByteArray.empty).size <= 400) := fun j hj => by
     rcases Nat.lt_or_ge j k with h | h
     ·exact HL.out j h
     ·have : j = k := by omega
      subst this
      rw [HX.out]; omega
    clear HL h4 hsx
    go_wp2_with fail
    refine E.mono ?_
    rintro e w2 ⟨rfl, hb⟩
    have G2 : Hid (Below w.heap.size w w2) := G1.out.trans (hb.mono G1.out.size)
    clear E hb G1
    go_wp2_with fail
    go_roundw
    case rel => exact ⟨k + 1, by omega, by go_num, HN, G2⟩
    case measure => simp [intOf]; omega
  ·have hkl : lp = k := by omega
   subst hkl
   have HF : Hid (tgOk l = true) := tg_yes (fun j hj => HL.out j (by rw [<- HT.out.2.1]; exact hj))
   go_wp2_with fail
   go_ret
   exact ⟨_, rfl, by rw [HF.out]; rfl, G1.out⟩
theorem containsLong_any (l : List ByteArray) (v : Value) (w : World) (hz : totT l <= 1000000000) (h1 : TxtAt w v l) :
  Calls Try.prog 107 #[v, .func (.func 106) #[] #[]] w fun e w' => e = .returned (.bool (!tgOk l)) /\ Below w.heap.size w w' := by
 have E := indexLong_any l v w hz h1
 obtain ⟨pa, pc, rfl, -⟩ := h1
 obtain ⟨B, hB⟩ := zE ((!tgOk l))
 rw [hB] at E |-
 clear hB hz
 go_enter Try.func107, Try.ntmps107
 go_wp2_with fail
 refine E.mono ?_
 rintro e w2 ⟨n, rfl, hn, hb⟩
 have G2 : Hid (Below w.heap.size w w2) := hb
 clear E hb
 have HN : Hid (decide (0 <= n) = B) := hn
 clear hn
 go_wp2_with fail
 go_ret
 exact ⟨by show Ending.returned (.bool (decide (0 <= n))) = _; rw [HN.out], G2.out⟩
theorem textsFit_any (l : List ByteArray) (v : Value) (m : Nat) (w : World) (hz : totT l <= 1000000000) (h1 : TxtAt w v l) :
  Calls Try.prog 78 #[.int .i64 (m : Int), v] w fun e w' => e = .returned (.bool (txOk l m)) /\ Below w.heap.size w w' := by
 have E := containsLong_any l v w hz h1
 have hll := Nat.le_trans (tot_len l) hz
 obtain ⟨pa, pc, rfl, -⟩ := h1
 obtain ⟨lp, hlp⟩ := zE (l.length)
 obtain ⟨B, hB⟩ := zE (tgOk l)
 have HT : Hid (txOk l m = (B && decide (lp <= m))) := by show txOk l m = _; unfold txOk; rw [hB, hlp]
 rw [hlp] at E hll |-
 rw [hB] at E
 clear hB hz hlp
 by_cases hm : lp <= m
 ·have hmi : (lp : Int) <= (m : Int) := by omega
  have HF : Hid (txOk l m = B) := by show txOk l m = B; rw [HT.out, decide_eq_true hm]; simp
  go_enter Try.func78, Try.ntmps78
  go_wp2_with fail
  refine E.mono ?_
  rintro e w2 ⟨rfl, hb⟩
  have G2 : Hid (Below w.heap.size w w2) := hb
  clear E hb HT
  cases B with
  | false =>
   go_wp2_with fail
   go_ret
   exact ⟨by rw [HF.out]; rfl, G2.out⟩
  | true =>
   go_wp2_with fail
   go_ret
   exact ⟨by rw [HF.out]; rfl, G2.out⟩
 ·have hmi : ¬ (lp : Int) <= (m : Int) := by omega
  have HF : Hid (txOk l m = false) := by show txOk l m = false; rw [HT.out, decide_eq_false hm]; simp
  go_enter Try.func78, Try.ntmps78
  go_wp2_with fail
  go_ret
  exact ⟨by rw [HF.out]; rfl, Below.refl _ _⟩
theorem upTo_any (hi n : Int) (w : World) : Calls Try.prog 45 #[.int .i64 hi, .int .i64 n] w fun e w' => e = .returned (.bool (inB n 0 hi)) /\ Below w.heap.size w w' := by
 by_cases h : 0 <= n
 ·by_cases h2 : n <= hi
  ·have HB : Hid (inB n 0 hi = true) := decide_eq_true ⟨h, h2⟩
   go_enter Try.func45, Try.ntmps45
   go_wp2_with fail
   go_ret
   exact ⟨by rw [HB.out]; simp [*], Below.refl _ _⟩
  ·have HB : Hid (inB n 0 hi = false) := decide_eq_false (fun q => h2 q.2)
   go_enter Try.func45, Try.ntmps45
   go_wp2_with fail
   go_ret
   exact ⟨by rw [HB.out]; simp [*], Below.refl _ _⟩
 ·have HB : Hid (inB n 0 hi = false) := decide_eq_false (fun q => h q.1)
  go_enter Try.func45, Try.ntmps45
  go_wp2_with fail
  go_ret
  exact ⟨by rw [HB.out]; simp [*], Below.refl _ _⟩
end Go.Proofs.Ytbiiihjohbnodaa
