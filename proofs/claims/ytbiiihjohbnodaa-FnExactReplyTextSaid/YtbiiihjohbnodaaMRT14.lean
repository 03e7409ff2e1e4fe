/-
  Texts of the proof.
-/
import Derived.Deep.RegionHeld3
import Derived.Test.YtbiiihjohbnodaaMRT8
import Derived.Test.YtbiiihjohbnodaaMRT13
set_option maxRecDepth 100000
set_option maxHeartbeats 25600000
namespace Go.Proofs.Ytbiiihjohbnodaa
open Go.RowKit Der
set_option linter.unusedVariables false
theorem sz_byts {n : Nat} : ∀ l : List ByteArray, l.length + ((l.map (bytJ (n := n))).map (szI (n + 1))).sum = totT l
 | [] => rfl
 | x :: l => by
  have h1 := sz_byts (n := n) l
  have h2 := sz_byt (n := n) x
  simp only [List.map_cons, List.sum_cons, List.length_cons, totT]
  omega
def ansI (x : Aw) : It 3 := lstJ [intI x.status, intI x.why, lstJ (x.path.map bytJ), lstJ (x.lst.map bytJ)]
def bodyR (c : Rp) : It 5 := lstJ [bytJ c.hash, intI c.nonce, intI c.time, intI c.next, intI c.plan, intI c.err, lstJ (c.ans.map ansI)]
def replyI (c : Rp) : It 6 := lstJ [bodyR c, bytJ c.sig]
theorem sz_ans (x : Aw) : szI 3 (ansI x) <= 14 + wtAw x := by
 have a1 : szI 2 (intI x.status) <= 5 := sz_int x.status
 have a2 : szI 2 (intI x.why) <= 5 := sz_int x.why
 have e1 : x.path.length + ((x.path.map bytJ).map (szI 1)).sum = totT x.path := sz_byts (n := 0) x.path
 have e2 : x.lst.length + ((x.lst.map bytJ).map (szI 1)).sum = totT x.lst := sz_byts (n := 0) x.lst
 unfold ansI wtAw
 rw [sz_lst]
 simp only [List.map_cons, List.map_nil, List.sum_cons, List.sum_nil, List.length_cons, List.length_nil]
 rw [sz_lst, sz_lst]
 simp only [List.length_map]
 omega
theorem sz_anss : ∀ l : List Aw, l.length + ((l.map ansI).map (szI 3)).sum <= 15 * wtAS l
 | [] => by simp
 | x :: l => by
  have h1 := sz_anss l
  have h2 := sz_ans x
  unfold wtAS at h1 |-
  simp only [List.map_cons, List.sum_cons, List.length_cons]
  omega
theorem sz_bodyR {c : Rp} (h : wtR c <= 1048576) : szI 5 (bodyR c) <= 16000000 := by
 unfold wtR at h
 have a1 : szI 4 (intI c.nonce) <= 5 := sz_int c.nonce
 have a2 : szI 4 (intI c.time) <= 5 := sz_int c.time
 have a3 : szI 4 (intI c.next) <= 5 := sz_int c.next
 have a4 : szI 4 (intI c.plan) <= 5 := sz_int c.plan
 have a5 : szI 4 (intI c.err) <= 5 := sz_int c.err
 have a6 : szI 4 (bytJ c.hash) = c.hash.size := sz_byt c.hash
 have e := sz_anss c.ans
 unfold bodyR
 rw [sz_lst]
 simp only [List.map_cons, List.map_nil, List.sum_cons, List.sum_nil, List.length_cons, List.length_nil]
 rw [sz_lst]
 simp only [List.length_map]
 omega
theorem sz_replyI {c : Rp} (h : wtR c <= 1048576) : szI 6 (replyI c) <= 20000000 := by
 have h1 := sz_bodyR h
 have a6 : szI 5 (bytJ c.sig) = c.sig.size := sz_byt c.sig
 unfold wtR at h
 unfold replyI
 rw [sz_lst]
 simp only [List.map_cons, List.map_nil, List.sum_cons, List.sum_nil, List.length_cons, List.length_nil]
 omega
theorem ans_row {W W' : World} {b : Nat} {x : Aw} {kP kE : Value} {fP fE : List Nat} (hP : OwnK W b 1 kP (It.kids (n := 1) (lstJ (x.path.map bytJ))) fP) (hE : OwnK W b 1 kE (It.kids (n := 1) (lstJ (x.lst.map bytJ))) fE) (hd : ∀ g ∈ fP, g ∉ fE) (hb : b <= W.heap.size)
  (hW : W' = W.alloc (.cells #[.int .i64 2, .string ⟨(intT (numN x.status)).toArray⟩, .slice none 0 0, .int .i64 2, .string ⟨(intT (numN x.why)).toArray⟩, .slice none 0 0, .int .i64 48, .string ⟨#[]⟩, kP, .int .i64 48, .string ⟨#[]⟩, kE] 67)) :
  ∃ fp, OwnK W' b 2 (.slice (some ⟨W.heap.size, 0, none⟩) 4 4) (It.kids (ansI x)) fp := by
 have nn := own_none W b 1
 have R : RowsK W b 1 (It.kids (ansI x)) [.slice none 0 0, .slice none 0 0, kP, kE] [[], [], fP, fE] := ⟨nn, nn, hP, hE, trivial⟩
 refine (R.grow (cap := 4) hb ?_ (by show 4 <= 1000; decide) rfl ?_).own
 ·have h1 := hP.nodup
  have h2 := hE.nodup
  have h3 : (fP ++ fE).Nodup := nodup_app h1 h2 fun y q1 q2 => hd y q1 q2
  simpa using h3
 ·rw [hW]
  rfl
theorem bodyR_row {W W' : World} {b : Nat} {c : Rp} {kv : Value} {fp : List Nat} (h : OwnK W b 3 kv (c.ans.map ansI) fp) (hb : b <= W.heap.size)
  (hW : W' = W.alloc (.cells #[.int .i64 4, .string c.hash, .slice none 0 0, .int .i64 2, .string ⟨(intT (numN c.nonce)).toArray⟩, .slice none 0 0, .int .i64 2, .string ⟨(intT (numN c.time)).toArray⟩, .slice none 0 0, .int .i64 2, .string ⟨(intT (numN c.next)).toArray⟩, .slice none 0 0, .int .i64 2, .string ⟨(intT (numN c.plan)).toArray⟩, .slice none 0 0, .int .i64 2, .string ⟨(intT (numN c.err)).toArray⟩, .slice none 0 0, .int .i64 48, .string ⟨#[]⟩, kv] 67)) :
  ∃ fq, OwnK W' b 4 (.slice (some ⟨W.heap.size, 0, none⟩) 7 7) (It.kids (bodyR c)) fq := by
 have nn := own_none W b 3
 have R : RowsK W b 3 (It.kids (bodyR c)) [.slice none 0 0, .slice none 0 0, .slice none 0 0, .slice none 0 0, .slice none 0 0, .slice none 0 0, kv] [[], [], [], [], [], [], fp] := ⟨nn, nn, nn, nn, nn, nn, h, trivial⟩
 refine (R.grow (cap := 7) hb (by have := h.nodup; simpa using this) (by show 7 <= 1000; decide) rfl ?_).own
 rw [hW]
 rfl
theorem reply_row {W W' : World} {b : Nat} {c : Rp} {k : Value} {fp : List Nat} (h : OwnK W b 4 k (It.kids (bodyR c)) fp) (hb : b <= W.heap.size)
  (hW : W' = W.alloc (.cells #[.int .i64 48, .string ⟨#[]⟩, k, .int .i64 4, .string c.sig, .slice none 0 0] 67)) :
  ∃ fq, OwnK W' b 5 (.slice (some ⟨W.heap.size, 0, none⟩) 2 2) (It.kids (replyI c)) fq := by
 have nn := own_none W b 4
 have R : RowsK W b 4 (It.kids (replyI c)) [k, .slice none 0 0] [fp, []] := ⟨h, nn, trivial⟩
 refine (R.grow (cap := 2) hb (by have := h.nodup; simpa using this) (by show 2 <= 1000; decide) rfl ?_).own
 rw [hW]
 rfl
end Go.Proofs.Ytbiiihjohbnodaa
namespace Go.Proofs.Ytbiiihjohbnodaa
open Go.RowKit
set_option linter.unusedVariables false
def tgOk (l : List ByteArray) : Bool := decide (∀ j, j < l.length -> (l.getD j ByteArray.empty).size <= 400)
theorem tg_no {l : List ByteArray} {k : Nat} (h : k < l.length) (h2 : ¬ (l.getD k ByteArray.empty).size <= 400) : tgOk l = false := decide_eq_false fun q => h2 (q k h)
theorem tg_yes {l : List ByteArray} (h : ∀ j, j < l.length -> (l.getD j ByteArray.empty).size <= 400) : tgOk l = true := decide_eq_true h
def txOk (l : List ByteArray) (m : Nat) : Bool := tgOk l && decide (l.length <= m)
def IxP (b : Bool) (w : World) (e : Ending) (w' : World) : Prop := ∃ n : Int, e = .returned (.int .i64 n) /\ decide (0 <= n) = b /\ Below w.heap.size w w'
theorem tooLong_any (x : ByteArray) (w : World) (hx : x.size <= 1000000000) :
  Calls Try.prog 106 #[.string x] w fun e w' => e = .returned (.bool (decide (400 < x.size))) /\ Below w.heap.size w w' := by
 by_cases h : 400 < x.size
 ·have hi : (400 : Int) < (x.size : Int) := by omega
  have HF : Hid (decide (400 < x.size) = true) := decide_eq_true h
  clear h
  go_enter Try.func106, Try.ntmps106
  go_wp2_with fail
  go_ret
  exact ⟨by rw [HF.out]; rfl, Below.refl _ _⟩
 ·have hi : ¬ (400 : Int) < (x.size : Int) := by omega
  have HF : Hid (decide (400 < x.size) = false) := decide_eq_false h
  clear h
  go_enter Try.func106, Try.ntmps106
  go_wp2_with fail
  go_ret
  exact ⟨by rw [HF.out]; rfl, Below.refl _ _⟩
theorem indexLong_any (l : List ByteArray) (v : Value) (w : World) (hz : totT l <= 1000000000) (h1 : TxtAt w v l) :
  Calls Try.prog 121 #[v, .func (.func 106) #[] #[]] w fun e w' => IxP (!tgOk l) w e w' := by
 obtain ⟨pa, pc, rfl, hcell⟩ := h1
 have hll := Nat.le_trans (tot_len l) hz
 obtain ⟨lp, hlp⟩ := zE (l.length)
 have HT : Hid ((∀ j, j < l.length -> ∃ g, pa = some ⟨g, 0, none⟩ /\ g < w.heap.size /\ w.cell? ⟨g, j, none⟩ = some (.string (l.getD j ByteArray.empty))) /\ l.length = lp /\ totT l <= 1000000000) := ⟨hcell, hlp, hz⟩
 rw [hlp] at hll |-
 clear hcell hlp hz
 go_enter Try.func121, Try.ntmps121
 go_wp2_with fail
 go_loopw [8] (fun iv wr => ∃ k : Nat, k <= lp /\ iv = .int .i64 k /\ Hid (∀ j, j < k -> (l.getD j ByteArray.empty).size <= 400) /\ Hid (Below w.heap.size w wr)) (fun iv _ => lp - (intOf iv).toNat)
 case atStart => exact ⟨0, Nat.zero_le _, rfl, fun j hj => absurd hj (Nat.not_lt_zero _), Below.refl _ _⟩
 case round =>
  obtain ⟨k, hk, rfl, HL, G1⟩ := hrel
  by_cases hlt : k < lp
  ·obtain ⟨g, hpg, hgw, hcs⟩ := HT.out.1 k (by rw [HT.out.2.1]; exact hlt)
   have hc1 : wr.cell? ⟨g, k, none⟩ = some (.string (l.getD k ByteArray.empty)) := (G1.out.cell (p := ⟨g, k, none⟩) hgw).trans hcs
   have hsx : (l.getD k ByteArray.empty).size <= 1000000000 := by
    have hm : l.getD k ByteArray.empty ∈ l := by rw [List.getD_eq_getElem?_getD, List.getElem?_eq_getElem (by rw [HT.out.2.1]; exact hlt)]; exact List.getElem_mem _
    exact Nat.le_trans (tot_mem l _ hm) HT.out.2.2
   have hki : (k : Int) < (lp : Int) := by omega
   have hk0 : (0 : Int) <= (k : Int) := by omega
   obtain ⟨x, hx⟩ := zE (l.getD k ByteArray.empty)
   rw [hx] at hc1 hsx
   have HX : Hid (l.getD k ByteArray.empty = x) := hx
   subst hpg
   clear hcs hx hgw
   have E := tooLong_any x wr hsx
   by_cases h4 : 400 < x.size
   ·rw [decide_eq_true h4] at E
    have HF : Hid (tgOk l = false) := tg_no (k := k) (by rw [HT.out.2.1]; exact hlt) (by rw [HX.out]; omega)
    clear h4 hsx
    go_wp2_with fail
    refine E.mono ?_
    rintro e w2 ⟨rfl, hb⟩
    have G2 : Hid (Below w.heap.size w w2) := G1.out.trans (hb.mono G1.out.size)
    clear E hb G1
    go_wp2_with fail
    go_ret
    exact ⟨_, rfl, by rw [HF.out]; exact decide_eq_true hk0, G2.out⟩
   ·rw [decide_eq_false h4] at E
    have HN : Hid (∀ j, j < k + 1 -> (l.getD j ByteArray.empty).size <= 400) := fun j hj => by
     rcases Nat.lt_or_ge j k with h | h
     ·exact HL.out j h
     ·have : j = k := by omega
      subst this
      rw [HX.out]; omega
    clear HL h4 hsx
    go_wp2_with fail
    refine E.mono ?_
    rintro e w2 ⟨rfl, hb⟩
    have G2 : Hid (Below w.heap.size w w2) := G1.out.trans (hb.mono G1.out.size)
    clear E hb G1
    go_wp2_with fail
    go_roundw
    case rel => exact ⟨k + 1, by omega, by go_num, HN, G2⟩
    case measure => simp [intOf]; omega
  ·have hkl : lp = k := by omega
   subst hkl
   have HF : Hid (tgOk l = true) := tg_yes (fun j hj => HL.out j (by rw [<- HT.out.2.1]; exact hj))
   go_wp2_with fail
   go_ret
   exact ⟨_, rfl, by rw [HF.out]; rfl, G1.out⟩
theorem containsLong_any (l : List ByteArray) (v : Value) (w : World) (hz : totT l <= 1000000000) (h1 : TxtAt w v l) :
  Calls Try.prog 107 #[v, .func (.func 106) #[] #[]] w fun e w' => e = .returned (.bool (!tgOk l)) /\ Below w.heap.size w w' := by
 have E := indexLong_any l v w hz h1
 obtain ⟨pa, pc, rfl, -⟩ := h1
 obtain ⟨B, hB⟩ := zE ((!tgOk l))
 rw [hB] at E |-
 clear hB hz
 go_enter Try.func107, Try.ntmps107
 go_wp2_with fail
 refine E.mono ?_
 rintro e w2 ⟨n, rfl, hn, hb⟩
 have G2 : Hid (Below w.heap.size w w2) := hb
 clear E hb
 have HN : Hid (decide (0 <= n) = B) := hn
 clear hn
 go_wp2_with fail
 go_ret
 exact ⟨by show Ending.returned (.bool (decide (0 <= n))) = _; rw [HN.out], G2.out⟩
theorem textsFit_any (l : List ByteArray) (v : Value) (m : Nat) (w : World) (hz : totT l <= 1000000000) (h1 : TxtAt w v l) :
  Calls Try.prog 78 #[.int .i64 (m : Int), v] w fun e w' => e = .returned (.bool (txOk l m)) /\ Below w.heap.size w w' := by
 have E := containsLong_any l v w hz h1
 have hll := Nat.le_trans (tot_len l) hz
 obtain ⟨pa, pc, rfl, -⟩ := h1
 obtain ⟨lp, hlp⟩ := zE (l.length)
 obtain ⟨B, hB⟩ := zE (tgOk l)
 have HT : Hid (txOk l m = (B && decide (lp <= m))) := by show txOk l m = _; unfold txOk; rw [hB, hlp]
 rw [hlp] at E hll |-
 rw [hB] at E
 clear hB hz hlp
 by_cases hm : lp <= m
 ·have hmi : (lp : Int) <= (m : Int) := by omega
  have HF : Hid (txOk l m = B) := by show txOk l m = B; rw [HT.out, decide_eq_true hm]; simp
  go_enter Try.func78, Try.ntmps78
  go_wp2_with fail
  refine E.mono ?_
  rintro e w2 ⟨rfl, hb⟩
  have G2 : Hid (Below w.heap.size w w2) := hb
  clear E hb HT
  cases B with
  | false =>
   go_wp2_with fail
   go_ret
   exact ⟨by rw [HF.out]; rfl, G2.out⟩
  | true =>
   go_wp2_with fail
   go_ret
   exact ⟨by rw [HF.out]; rfl, G2.out⟩
 ·have hmi : ¬ (lp : Int) <= (m : Int) := by omega
  have HF : Hid (txOk l m = false) := by show txOk l m = false; rw [HT.out, decide_eq_false hm]; simp
  go_enter Try.func78, Try.ntmps78
  go_wp2_with fail
  go_ret
  exact ⟨by rw [HF.out]; rfl, Below.refl _ _⟩
end Go.Proofs.Ytbiiihjohbnodaa
