/-
  Texts of the proof.
-/
import Derived.WalkKit
import Derived.Laws.RangeString
import Derived.Laws.RangeAny
import Derived.Test.YtllmgjfffkhocaaPO4
set_option maxRecDepth 100000
set_option maxHeartbeats 25600000
namespace Go.Proofs.Ytllmgjfffkhocaa
open Go.RowKit
set_option linter.unusedVariables false
theorem eqCert_same (c : Ct) (a b : Value) (w : World) (hl : c.pol.length <= 1000000000 /\ c.per.length <= 1000000000 /\ c.den.length <= 1000000000) (ha : CtAt w a c) (hb : CtAt w b c) :
  Calls Try.prog 82 #[a, b] w fun e w' => e = .returned (.bool true) /\ Below w.heap.size w w' := by
 obtain ⟨pv, ev, dv, rfl, h1, h2, h3⟩ := ha
 obtain ⟨pu, eu, du, rfl, k1, k2, k3⟩ := hb
 have HQ : Hid (∀ W, Below w.heap.size w W -> Calls Try.prog 55 #[pv, pu] W (fun e w' => e = .returned (.bool true) /\ Below W.heap.size W w') /\ Calls Try.prog 56 #[ev, eu] W (fun e w' => e = .returned (.bool true) /\ Below W.heap.size W w') /\ Calls Try.prog 56 #[dv, du] W (fun e w' => e = .returned (.bool true) /\ Below W.heap.size W w')) :=
  fun W hb => ⟨eqIntS_same pv pu c.pol W hl.1 (h1.below hb) (k1.below hb), eqT_same ev eu c.per W hl.2.1 (h2.below hb) (k2.below hb), eqT_same dv du c.den W hl.2.2 (h3.below hb) (k3.below hb)⟩
 obtain ⟨lp, hlp⟩ := zE (c.pol.length)
 obtain ⟨le, hle⟩ := zE (c.per.length)
 obtain ⟨ld, hld⟩ := zE (c.den.length)
 obtain ⟨pa, pc, hpa, _⟩ := h1
 obtain ⟨ea, ec, hea, _⟩ := h2
 obtain ⟨da, dc, hda, _⟩ := h3
 obtain ⟨pb, qc, hpb, _⟩ := k1
 obtain ⟨eb, fc, heb, _⟩ := k2
 obtain ⟨db, gc, hdb, _⟩ := k3
 rw [hlp] at hpa hpb
 rw [hle] at hea heb
 rw [hld] at hda hdb
 subst hpa hea hda hpb heb hdb
 clear hlp hle hld hl
 unfold ctV
 go_enter Try.func82, Try.ntmps82
 go_wp2_with fail
 obtain ⟨V, hV⟩ : ∃ V, V = (w.alloc (Obj.cells #[.int .i64 c.serial, .string c.issuer, .string c.subject, .int .i64 c.frm, .int .i64 c.upto, .string c.key, .bool c.ca, .int .i64 c.pathLen, .int .i64 c.usage, .slice pa lp pc, .slice ea le ec, .slice da ld dc, .string c.sig] 112)).alloc (Obj.cells #[.int .i64 c.serial, .string c.issuer, .string c.subject, .int .i64 c.frm, .int .i64 c.upto, .string c.key, .bool c.ca, .int .i64 c.pathLen, .int .i64 c.usage, .slice pb lp qc, .slice eb le fc, .slice db ld gc, .string c.sig] 112) := ⟨_, rfl⟩
 rw [<- hV]
 have G : Hid (Blk V w.heap.size 112 #[.int .i64 c.serial, .string c.issuer, .string c.subject, .int .i64 c.frm, .int .i64 c.upto, .string c.key, .bool c.ca, .int .i64 c.pathLen, .int .i64 c.usage, .slice pa lp pc, .slice ea le ec, .slice da ld dc, .string c.sig] /\ Blk V (w.heap.size + 1) 112 #[.int .i64 c.serial, .string c.issuer, .string c.subject, .int .i64 c.frm, .int .i64 c.upto, .string c.key, .bool c.ca, .int .i64 c.pathLen, .int .i64 c.usage, .slice pb lp qc, .slice eb le fc, .slice db ld gc, .string c.sig] /\ Below w.heap.size w V /\ w.heap.size + 1 < V.heap.size) := by
  have e0 : (w.alloc (Obj.cells #[.int .i64 c.serial, .string c.issuer, .string c.subject, .int .i64 c.frm, .int .i64 c.upto, .string c.key, .bool c.ca, .int .i64 c.pathLen, .int .i64 c.usage, .slice pa lp pc, .slice ea le ec, .slice da ld dc, .string c.sig] 112)).heap.size = w.heap.size + 1 := Array.size_push _
  have h := Blk.new (w.alloc (Obj.cells #[.int .i64 c.serial, .string c.issuer, .string c.subject, .int .i64 c.frm, .int .i64 c.upto, .string c.key, .bool c.ca, .int .i64 c.pathLen, .int .i64 c.usage, .slice pa lp pc, .slice ea le ec, .slice da ld dc, .string c.sig] 112)) 112 #[.int .i64 c.serial, .string c.issuer, .string c.subject, .int .i64 c.frm, .int .i64 c.upto, .string c.key, .bool c.ca, .int .i64 c.pathLen, .int .i64 c.usage, .slice pb lp qc, .slice eb le fc, .slice db ld gc, .string c.sig]
  rw [e0] at h
  rw [hV]
  exact ⟨(Blk.new w _ _).alloc _, h, ((Below.refl _ _).alloc (Nat.le_refl _) _).alloc (by rw [e0]; omega) _, by rw [size_alloc, e0]; omega⟩
 clear hV
 refine ((HQ.out V G.out.2.2.1).1).mono ?_
 rintro e V0 ⟨rfl, hb⟩
 have G0 : Hid (Blk V0 w.heap.size 112 #[.int .i64 c.serial, .string c.issuer, .string c.subject, .int .i64 c.frm, .int .i64 c.upto, .string c.key, .bool c.ca, .int .i64 c.pathLen, .int .i64 c.usage, .slice pa lp pc, .slice ea le ec, .slice da ld dc, .string c.sig] /\ Blk V0 (w.heap.size + 1) 112 #[.int .i64 c.serial, .string c.issuer, .string c.subject, .int .i64 c.frm, .int .i64 c.upto, .string c.key, .bool c.ca, .int .i64 c.pathLen, .int .i64 c.usage, .slice pb lp qc, .slice eb le fc, .slice db ld gc, .string c.sig] /\ Below w.heap.size w V0 /\ w.heap.size + 1 < V0.heap.size) := ⟨G.out.1.below hb (by have := G.out.2.2.2; omega), G.out.2.1.below hb G.out.2.2.2, G.out.2.2.1.trans (hb.mono G.out.2.2.1.size), Nat.lt_of_lt_of_le G.out.2.2.2 hb.size⟩
 clear hb G
 have ca : V0.cell? ⟨w.heap.size, 10, none⟩ = some (.slice ea le ec) := G0.out.1.cell 10
 have cb : V0.cell? ⟨w.heap.size + 1, 10, none⟩ = some (.slice eb le fc) := G0.out.2.1.cell 10
 go_wp2_with fail
 clear ca cb
 refine ((HQ.out V0 G0.out.2.2.1).2.1).mono ?_
 rintro e V1 ⟨rfl, hb⟩
 have G1 : Hid (Blk V1 w.heap.size 112 #[.int .i64 c.serial, .string c.issuer, .string c.subject, .int .i64 c.frm, .int .i64 c.upto, .string c.key, .bool c.ca, .int .i64 c.pathLen, .int .i64 c.usage, .slice pa lp pc, .slice ea le ec, .slice da ld dc, .string c.sig] /\ Blk V1 (w.heap.size + 1) 112 #[.int .i64 c.serial, .string c.issuer, .string c.subject, .int .i64 c.frm, .int .i64 c.upto, .string c.key, .bool c.ca, .int .i64 c.pathLen, .int .i64 c.usage, .slice pb lp qc, .slice eb le fc, .slice db ld gc, .string c.sig] /\ Below w.heap.size w V1 /\ w.heap.size + 1 < V1.heap.size) := ⟨G0.out.1.below hb (by have := G0.out.2.2.2; omega), G0.out.2.1.below hb G0.out.2.2.2, G0.out.2.2.1.trans (hb.mono G0.out.2.2.1.size), Nat.lt_of_lt_of_le G0.out.2.2.2 hb.size⟩
 clear hb G0
 have ca : V1.cell? ⟨w.heap.size, 11, none⟩ = some (.slice da ld dc) := G1.out.1.cell 11
 have cb : V1.cell? ⟨w.heap.size + 1, 11, none⟩ = some (.slice db ld gc) := G1.out.2.1.cell 11
 go_wp2_with fail
 clear ca cb
 refine ((HQ.out V1 G1.out.2.2.1).2.2).mono ?_
 rintro e V2 ⟨rfl, hb⟩
 have G2 : Hid (Blk V2 w.heap.size 112 #[.int .i64 c.serial, .string c.issuer, .string c.subject, .int .i64 c.frm, .int .i64 c.upto, .string c.key, .bool c.ca, .int .i64 c.pathLen, .int .i64 c.usage, .slice pa lp pc, .slice ea le ec, .slice da ld dc, .string c.sig] /\ Blk V2 (w.heap.size + 1) 112 #[.int .i64 c.serial, .string c.issuer, .string c.subject, .int .i64 c.frm, .int .i64 c.upto, .string c.key, .bool c.ca, .int .i64 c.pathLen, .int .i64 c.usage, .slice pb lp qc, .slice eb le fc, .slice db ld gc, .string c.sig] /\ Below w.heap.size w V2 /\ w.heap.size + 1 < V2.heap.size) := ⟨G1.out.1.below hb (by have := G1.out.2.2.2; omega), G1.out.2.1.below hb G1.out.2.2.2, G1.out.2.2.1.trans (hb.mono G1.out.2.2.1.size), Nat.lt_of_lt_of_le G1.out.2.2.2 hb.size⟩
 clear hb G1
 have ca : V2.cell? ⟨w.heap.size, 12, none⟩ = some (.string c.sig) := G2.out.1.cell 12
 have cb : V2.cell? ⟨w.heap.size + 1, 12, none⟩ = some (.string c.sig) := G2.out.2.1.cell 12
 go_wp2_with fail
 go_ret
 exact ⟨rfl, G2.out.2.2.1⟩
end Go.Proofs.Ytllmgjfffkhocaa
namespace Go.Proofs.Ytllmgjfffkhocaa
def ascG {α : Type} (lt : α -> α -> Bool) (d : α) (l : List α) : Bool := (List.range (l.length - 1)).all fun i => lt (l.getD i d) (l.getD (i + 1) d)
theorem asc_yes {α : Type} {lt : α -> α -> Bool} {d : α} {l : List α} (h : ∀ i, 0 < i -> i < l.length -> lt (l.getD (i - 1) d) (l.getD i d) = true) : ascG lt d l = true := by
 unfold ascG
 rw [List.all_eq_true]
 intro i hi
 rw [List.mem_range] at hi
 exact h (i + 1) (by omega) (by omega)
theorem asc_no {α : Type} {lt : α -> α -> Bool} {d : α} {l : List α} (i : Nat) (h0 : 0 < i) (hi : i < l.length) (h : lt (l.getD (i - 1) d) (l.getD i d) = false) : ascG lt d l = false := by
 unfold ascG
 rw [List.all_eq_false]
 refine ⟨i - 1, by rw [List.mem_range]; omega, ?_⟩
 rw [show i - 1 + 1 = i by omega, h]
 simp
theorem all_yes {α : Type} {f : α -> Bool} {d : α} {l : List α} (h : ∀ i, i < l.length -> f (l.getD i d) = true) : l.all f = true := by
 rw [List.all_eq_true]
 intro x hx
 obtain ⟨i, hi, rfl⟩ := List.getElem_of_mem hx
 have := h i hi
 rwa [List.getD_eq_getElem?_getD, List.getElem?_eq_getElem hi] at this
theorem all_no {α : Type} {f : α -> Bool} {d : α} {l : List α} (i : Nat) (hi : i < l.length) (h : f (l.getD i d) = false) : l.all f = false := by
 rw [List.all_eq_false]
 refine ⟨l[i], List.getElem_mem hi, ?_⟩
 rw [List.getD_eq_getElem?_getD, List.getElem?_eq_getElem hi] at h
 simpa using h
def lsI (a b : Int) : Bool := decide (a < b)
def listOk {α : Type} (f : α -> Bool) (lt : α -> α -> Bool) (d : α) (l : List α) : Bool := decide (l.length <= 4) && l.all f && ascG lt d l
theorem ok_bad {α : Type} {f : α -> Bool} {lt : α -> α -> Bool} {d : α} {l : List α} (i : Nat) (hi : i < l.length) (h : f (l.getD i d) = false) : listOk f lt d l = false := by
 unfold listOk; rw [all_no i hi h]; simp
theorem ok_down {α : Type} {f : α -> Bool} {lt : α -> α -> Bool} {d : α} {l : List α} (i : Nat) (h0 : 0 < i) (hi : i < l.length) (h : lt (l.getD (i - 1) d) (l.getD i d) = false) : listOk f lt d l = false := by
 unfold listOk; rw [asc_no i h0 hi h]; simp
theorem ok_end {α : Type} {f : α -> Bool} {lt : α -> α -> Bool} {d : α} {l : List α} (h1 : ∀ i, i < l.length -> f (l.getD i d) = true) (h2 : ∀ i, 0 < i -> i < l.length -> lt (l.getD (i - 1) d) (l.getD i d) = true) : listOk f lt d l = decide (l.length <= 4) := by
 unfold listOk; rw [all_yes h1, asc_yes h2]; simp
theorem ok_long {α : Type} {f : α -> Bool} {lt : α -> α -> Bool} {d : α} {l : List α} (h : 4 < l.length) : listOk f lt d l = false := by
 unfold listOk; rw [decide_eq_false (by omega)]; simp
theorem ok_asc {α : Type} {f : α -> Bool} {lt : α -> α -> Bool} {d : α} {l : List α} (h1 : ∀ i, i < l.length -> f (l.getD i d) = true) (h : l.length <= 4) : listOk f lt d l = ascG lt d l := by
 unfold listOk; rw [all_yes h1, decide_eq_true h]; simp
def polIn (x : Int) : Bool := decide (0 <= x /\ x <= 99)
def polOk (l : List Int) : Bool := listOk polIn lsI 0 l
end Go.Proofs.Ytllmgjfffkhocaa
namespace Go.Proofs.Ytllmgjfffkhocaa
open Go.RowKit
set_option linter.unusedVariables false
theorem IntAt.each {w : World} {v : Value} {l : List Int} (h : IntAt w v l) : ∃ ao cap, v = .slice ao l.length cap /\ ∀ j, j < l.length -> ∃ g, ao = some ⟨g, 0, none⟩ /\ g < w.heap.size /\ w.cell? ⟨g, j, none⟩ = some (.int .i64 (l.getD j 0)) := by
 obtain ⟨ao, cap, hv, h⟩ := h
 refine ⟨ao, cap, hv, fun j hj => ?_⟩
 obtain ⟨g, hg, hlt, hc⟩ := h (by omega)
 refine ⟨g, hg, hlt, ?_⟩
 rw [hc j hj]
 simp [List.getD, hj]
theorem specIok_any (v : Value) (l : List Int) (w : World) (hl : l.length <= 1000000000) (h : IntAt w v l) : Calls Try.prog 73 #[v] w fun e w' => e = .returned (.bool (polOk l)) /\ Below w.heap.size w w' := by
 obtain ⟨ao, cap, rfl, hc⟩ := h.each
 have HC : Hid (∀ j, j < l.length -> ∃ g, ao = some ⟨g, 0, none⟩ /\ g < w.heap.size /\ w.cell? ⟨g, j, none⟩ = some (Value.int .i64 (l.getD j 0))) := hc
 clear hc h
 go_enter Try.func73, Try.ntmps73
 go_wp2
 go_loopw [3] (fun iv wr => ∃ k : Nat, k <= l.length /\ iv = .int .i64 k /\ Hid ((∀ j, j < k -> polIn (l.getD j 0) = true) /\ ∀ j, 0 < j -> j < k -> lsI (l.getD (j - 1) 0) (l.getD j 0) = true) /\ Below w.heap.size w wr) (fun iv _ => l.length - (intOf iv).toNat)
 case atStart => exact ⟨0, Nat.zero_le _, rfl, ⟨fun j hj => absurd hj (Nat.not_lt_zero _), fun j _ hj => absurd hj (Nat.not_lt_zero _)⟩, Below.refl _ _⟩
 case round =>
  obtain ⟨k, hk, rfl, HI, hbel⟩ := hrel
  by_cases hlt : k < l.length
  ·obtain ⟨g, hao, hg, hcx⟩ := HC.out k hlt
   have c1 : wr.cell? ⟨g, k, none⟩ = some (Value.int .i64 (l.getD k 0)) := (hbel.cell (p := ⟨g, k, none⟩) hg).trans hcx
   have hki : (k : Int) < (l.length : Int) := by omega
   have hk0 : (0 : Int) <= (k : Int) := by omega
   have hb2 : Hid (Below w.heap.size w wr) := hbel
   have HQ1 : Hid (polIn (l.getD k 0) = false -> polOk l = false) := fun q => ok_bad k hlt q
   have HQ2 : Hid (0 < k -> lsI (l.getD (k - 1) 0) (l.getD k 0) = false -> polOk l = false) := fun h0 q => ok_down k h0 hlt q
   have HQ3 : Hid (polIn (l.getD k 0) = true -> (0 < k -> lsI (l.getD (k - 1) 0) (l.getD k 0) = true) -> (∀ j, j < k + 1 -> polIn (l.getD j 0) = true) /\ ∀ j, 0 < j -> j < k + 1 -> lsI (l.getD (j - 1) 0) (l.getD j 0) = true) := fun q q2 => ⟨fun j hj => by
     by_cases e : j = k
     ·rw [e]; exact q
     ·exact HI.out.1 j (by omega), fun j h0 hj => by
     by_cases e : j = k
     ·rw [e]; exact q2 (by omega)
     ·exact HI.out.2 j h0 (by omega)⟩
   have HY : Hid (0 < k -> wr.cell? ⟨g, k - 1, none⟩ = some (Value.int .i64 (l.getD (k - 1) 0))) := fun h0 => by
    obtain ⟨g2, e2, hg2, hcy⟩ := HC.out (k - 1) (by omega)
    rw [hao] at e2
    simp at e2
    subst e2
    exact (hbel.cell (p := ⟨g, k - 1, none⟩) hg2).trans hcy
   generalize hx : l.getD k 0 = x at *
   generalize hy : l.getD (k - 1) 0 = y at *
   subst hao
   clear hcx hbel HI hx hy
   cases hok : polIn x with
   | false =>
    have HF : Hid (polOk l = false) := HQ1.out hok
    have hno : x < 0 ∨ (99 : Int) < x := by unfold polIn at hok; rw [decide_eq_false_iff_not] at hok; omega
    have EQ : Hid (∀ W, Calls Try.prog 37 #[.int .i64 x, .int .i64 0, .int .i64 99] W fun e w' => e = .returned (.bool false) /\ w' = W) := fun W => (in_no _ _ _ _ hno).mono (by rintro e w' ⟨rfl, rfl⟩; exact ⟨rfl, rfl⟩)
    clear HQ1 HQ2 HQ3
    go_wp2_with fail
    go_quiet (exact Calls.quiet_of_same (EQ.out _))
    go_wp2_with fail
    go_ret
    exact ⟨by rw [HF.out]; rfl, below_drewN hb2.out _⟩
   | true =>
    have hyes : 0 <= x /\ x <= 99 := by unfold polIn at hok; rwa [decide_eq_true_eq] at hok
    have EQ : Hid (∀ W, Calls Try.prog 37 #[.int .i64 x, .int .i64 0, .int .i64 99] W fun e w' => e = .returned (.bool true) /\ w' = W) := fun W => (in_yes _ _ _ _ hyes.1 hyes.2).mono (by rintro e w' ⟨rfl, rfl⟩; exact ⟨rfl, rfl⟩)
    by_cases hz : 0 < k
    ·have hzi : (0 : Int) < (k : Int) := by omega
     have c2 := HY.out hz
     have wk : IntKind.i64.wrap ((k : Int) - 1) = ((k - 1 : Nat) : Int) := by rw [IntKind.wrap_i64]; omega
     have hk1i : ((k - 1 : Nat) : Int) < (l.length : Int) := by omega
     have hk10 : (0 : Int) <= ((k - 1 : Nat) : Int) := by omega
     cases hl : lsI y x with
     | false =>
      have qc : x <= y := by have := hl; unfold lsI at this; rw [decide_eq_false_iff_not] at this; omega
      have qn : ¬ y < x := by omega
      have HF : Hid (polOk l = false) := HQ2.out hz hl
      clear HQ1 HQ2 HQ3 hl
      generalize k - 1 = m at *
      go_wp2_with fail
      go_quiet (exact Calls.quiet_of_same (EQ.out _))
      go_wp2_with fail
      go_ret
      exact ⟨by rw [HF.out]; rfl, below_drewN hb2.out _⟩
     | true =>
      have qc : y < x := by have := hl; unfold lsI at this; rwa [decide_eq_true_eq] at this
      have qn : ¬ x <= y := by omega
      have HN : Hid ((∀ j, j < k + 1 -> polIn (l.getD j 0) = true) /\ ∀ j, 0 < j -> j < k + 1 -> lsI (l.getD (j - 1) 0) (l.getD j 0) = true) := HQ3.out hok fun _ => hl
      clear HQ1 HQ2 HQ3 hl
      generalize k - 1 = m at *
      go_wp2_with fail
      go_quiet (exact Calls.quiet_of_same (EQ.out _))
      go_wp2_with fail
      go_roundw
      case rel => exact ⟨k + 1, by omega, by go_num, HN, below_drewN hb2.out _⟩
      case measure => simp [intOf]; omega
    ·have hzi : ¬ (0 : Int) < (k : Int) := by omega
     have HN : Hid ((∀ j, j < k + 1 -> polIn (l.getD j 0) = true) /\ ∀ j, 0 < j -> j < k + 1 -> lsI (l.getD (j - 1) 0) (l.getD j 0) = true) := HQ3.out hok fun q => absurd q hz
     clear HQ1 HQ2 HQ3
     go_wp2_with fail
     go_quiet (exact Calls.quiet_of_same (EQ.out _))
     go_wp2_with fail
     go_roundw
     case rel => exact ⟨k + 1, by omega, by go_num, HN, below_drewN hb2.out _⟩
     case measure => simp [intOf]; omega
  ·have hkl : k = l.length := by omega
   subst hkl
   have HF : Hid (polOk l = decide (l.length <= 4)) := ok_end HI.out.1 HI.out.2
   by_cases h4 : l.length <= 4
   ·have h4i : (l.length : Int) <= 4 := by omega
    have HG : Hid (polOk l = true) := by show polOk l = _; rw [HF.out, decide_eq_true h4]
    go_wp2
    go_ret
    exact ⟨by rw [HG.out]; rfl, hbel⟩
   ·have h4i : ¬ (l.length : Int) <= 4 := by omega
    have HG : Hid (polOk l = false) := by show polOk l = _; rw [HF.out, decide_eq_false h4]
    go_wp2
    go_ret
    exact ⟨by rw [HG.out]; rfl, hbel⟩
theorem ascI_any (v : Value) (l : List Int) (w : World) (hl : l.length <= 1000000000) (h : IntAt w v l) : Calls Try.prog 43 #[v] w fun e w' => e = .returned (.bool (ascG lsI 0 l)) /\ Below w.heap.size w w' := by
 obtain ⟨ao, cap, rfl, hc⟩ := h.each
 have HC : Hid (∀ j, j < l.length -> ∃ g, ao = some ⟨g, 0, none⟩ /\ g < w.heap.size /\ w.cell? ⟨g, j, none⟩ = some (Value.int .i64 (l.getD j 0))) := hc
 clear hc h
 go_enter Try.func43, Try.ntmps43
 go_wp2
 go_loopw [3] (fun iv wr => ∃ k : Nat, 1 <= k /\ (k <= l.length ∨ k = 1) /\ iv = .int .i64 k /\ Hid (∀ j, 0 < j -> j < k -> lsI (l.getD (j - 1) 0) (l.getD j 0) = true) /\ Below w.heap.size w wr) (fun iv _ => l.length - (intOf iv).toNat)
 case atStart => exact ⟨1, Nat.le_refl _, .inr rfl, rfl, fun j h0 hj => by omega, Below.refl _ _⟩
 case round =>
  obtain ⟨k, hk1, hk, rfl, HI, hbel⟩ := hrel
  by_cases hlt : k < l.length
  ·obtain ⟨g, hao, hg, hcx⟩ := HC.out k hlt
   obtain ⟨g2, e2, hg2, hcy⟩ := HC.out (k - 1) (by omega)
   rw [hao] at e2
   simp at e2
   subst e2
   have c1 : wr.cell? ⟨g, k, none⟩ = some (Value.int .i64 (l.getD k 0)) := (hbel.cell (p := ⟨g, k, none⟩) hg).trans hcx
   have c2 : wr.cell? ⟨g, k - 1, none⟩ = some (Value.int .i64 (l.getD (k - 1) 0)) := (hbel.cell (p := ⟨g, k - 1, none⟩) hg2).trans hcy
   have hki : (k : Int) < (l.length : Int) := by omega
   have hk0 : (0 : Int) <= (k : Int) := by omega
   have hb2 : Hid (Below w.heap.size w wr) := hbel
   have wk : IntKind.i64.wrap ((k : Int) - 1) = ((k - 1 : Nat) : Int) := by rw [IntKind.wrap_i64]; omega
   have hk1i : ((k - 1 : Nat) : Int) < (l.length : Int) := by omega
   have hk10 : (0 : Int) <= ((k - 1 : Nat) : Int) := by omega
   have HQ2 : Hid (lsI (l.getD (k - 1) 0) (l.getD k 0) = false -> ascG lsI 0 l = false) := fun q => asc_no k (by omega) hlt q
   have HQ3 : Hid (lsI (l.getD (k - 1) 0) (l.getD k 0) = true -> ∀ j, 0 < j -> j < k + 1 -> lsI (l.getD (j - 1) 0) (l.getD j 0) = true) := fun q2 j h0 hj => by
     by_cases e : j = k
     ·rw [e]; exact q2
     ·exact HI.out j h0 (by omega)
   generalize hx : l.getD k 0 = x at *
   generalize hy : l.getD (k - 1) 0 = y at *
   subst hao
   clear hcx hcy hbel HI hx hy
   cases hl : lsI y x with
   | false =>
    have qc : x <= y := by have := hl; unfold lsI at this; rw [decide_eq_false_iff_not] at this; omega
    have qn : ¬ y < x := by omega
    have HF : Hid (ascG lsI 0 l = false) := HQ2.out hl
    clear HQ2 HQ3 hl
    generalize k - 1 = m at *
    go_wp2_with fail
    go_quiet (fail)
    go_wp2_with fail
    go_ret
    exact ⟨by rw [HF.out]; rfl, below_drewN hb2.out _⟩
   | true =>
    have qc : y < x := by have := hl; unfold lsI at this; rwa [decide_eq_true_eq] at this
    have qn : ¬ x <= y := by omega
    have HN : Hid (∀ j, 0 < j -> j < k + 1 -> lsI (l.getD (j - 1) 0) (l.getD j 0) = true) := HQ3.out hl
    clear HQ2 HQ3 hl
    generalize k - 1 = m at *
    go_wp2_with fail
    go_quiet (fail)
    go_wp2_with fail
    go_roundw
    case rel => exact ⟨k + 1, by omega, .inl (by omega), by go_num, HN, below_drewN hb2.out _⟩
    case measure => simp [intOf]; omega
  ·have hki : ¬ (k : Int) < (l.length : Int) := by omega
   have HF : Hid (ascG lsI 0 l = true) := asc_yes fun j h0 hj => HI.out j h0 (by omega)
   go_wp2
   go_ret
   exact ⟨by rw [HF.out]; rfl, hbel⟩
theorem implIok_any (v : Value) (l : List Int) (w : World) (hl : l.length <= 1000000000) (h : IntAt w v l) : Calls Try.prog 103 #[v] w fun e w' => e = .returned (.bool (polOk l)) /\ Below w.heap.size w w' := by
 have HT : Hid (IntAt w v l) := h
 obtain ⟨ao, cap, rfl, hc⟩ := h.each
 have HC : Hid (∀ j, j < l.length -> ∃ g, ao = some ⟨g, 0, none⟩ /\ g < w.heap.size /\ w.cell? ⟨g, j, none⟩ = some (Value.int .i64 (l.getD j 0))) := hc
 clear hc h
 by_cases h4 : 4 < l.length
 ·have h4i : (4 : Int) < (l.length : Int) := by omega
  have HF : Hid (polOk l = false) := ok_long h4
  go_enter Try.func103, Try.ntmps103
  go_wp2
  go_ret
  exact ⟨by rw [HF.out]; rfl, Below.refl _ _⟩
 have h4i : ¬ (4 : Int) < (l.length : Int) := by omega
 go_enter Try.func103, Try.ntmps103
 go_wp2
 go_loopw [10] (fun iv wr => ∃ k : Nat, k <= l.length /\ iv = .int .i64 k /\ Hid (∀ j, j < k -> polIn (l.getD j 0) = true) /\ Below w.heap.size w wr) (fun iv _ => l.length - (intOf iv).toNat)
 case atStart => exact ⟨0, Nat.zero_le _, rfl, fun j hj => absurd hj (Nat.not_lt_zero _), Below.refl _ _⟩
 case round =>
  obtain ⟨k, hk, rfl, HI, hbel⟩ := hrel
  by_cases hlt : k < l.length
  ·obtain ⟨g, hao, hg, hcx⟩ := HC.out k hlt
   have c1 : wr.cell? ⟨g, k, none⟩ = some (Value.int .i64 (l.getD k 0)) := (hbel.cell (p := ⟨g, k, none⟩) hg).trans hcx
   have hki : (k : Int) < (l.length : Int) := by omega
   have hk0 : (0 : Int) <= (k : Int) := by omega
   have HQ1 : Hid (polIn (l.getD k 0) = false -> polOk l = false) := fun q => ok_bad k hlt q
   have HQ3 : Hid (polIn (l.getD k 0) = true -> ∀ j, j < k + 1 -> polIn (l.getD j 0) = true) := fun q j hj => by
     by_cases e : j = k
     ·rw [e]; exact q
     ·exact HI.out j (by omega)
   generalize hx : l.getD k 0 = x at *
   subst hao
   clear hcx HI hx
   cases hok : polIn x with
   | false =>
    have HF : Hid (polOk l = false) := HQ1.out hok
    have hno : x < 0 ∨ (99 : Int) < x := by unfold polIn at hok; rw [decide_eq_false_iff_not] at hok; omega
    clear HQ1 HQ3 hok
    by_cases hneg : x < 0
    ·go_wp2
     go_ret
     exact ⟨by rw [HF.out]; rfl, hbel⟩
    ·have hgt : (99 : Int) < x := by omega
     go_wp2
     go_ret
     exact ⟨by rw [HF.out]; rfl, hbel⟩
   | true =>
    have HN : Hid (∀ j, j < k + 1 -> polIn (l.getD j 0) = true) := HQ3.out hok
    have hyes : 0 <= x /\ x <= 99 := by unfold polIn at hok; rwa [decide_eq_true_eq] at hok
    have hneg : ¬ x < 0 := by omega
    have hgt : ¬ (99 : Int) < x := by omega
    clear HQ1 HQ3 hok
    go_wp2
    go_roundw
    case rel => exact ⟨k + 1, by omega, by go_num, HN, hbel⟩
    case measure => simp [intOf]; omega
  ·have hki : ¬ (k : Int) < (l.length : Int) := by omega
   have hkl : k = l.length := by omega
   subst hkl
   have HF : Hid (polOk l = ascG lsI 0 l) := ok_asc HI.out (by omega)
   have EC : Hid (Calls Try.prog 43 #[.slice ao l.length cap] wr fun e w' => e = .returned (.bool (ascG lsI 0 l)) /\ Below wr.heap.size wr w') := ascI_any _ l wr hl (HT.out.below hbel)
   have hb2 : Hid (Below w.heap.size w wr) := hbel
   clear hbel HI
   generalize ascG lsI 0 l = b at *
   go_wp2_with (go_at_call 43; refine (EC.out).mono ?_; rintro e w' ⟨rfl, hb1⟩)
   go_ret
   exact ⟨by rw [HF.out]; rfl, hb2.out.trans (hb1.mono hb2.out.size)⟩
end Go.Proofs.Ytllmgjfffkhocaa
