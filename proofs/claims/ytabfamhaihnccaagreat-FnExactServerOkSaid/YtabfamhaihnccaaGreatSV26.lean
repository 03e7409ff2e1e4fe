/-
  Texts of the proof.
-/
import Derived.Laws.AppendOwnNone
import Derived.Deep.RegionLaw
import Derived.Test.YtabfamhaihnccaaGreatSV21
set_option maxRecDepth 100000
set_option maxHeartbeats 25600000
namespace Go.Proofs.YtabfamhaihnccaaGreat
open Go.RowKit
set_option linter.unusedVariables false
set_option linter.unusedSimpArgs false
theorem hasAnchor_any (a1 : Option Addr) (n1 c1 : Nat) (a2 : Option Addr) (n2 c2 : Nat) (a3 : Option Addr) (n3 c3 : Nat) (K : Int) (w : World) (hn : n3 <= 1000000000) :
  Calls Tryz.prog 138 #[.agg #[.slice a1 n1 c1, .slice a2 n2 c2, .slice a3 n3 c3], .int .i64 K] w fun e w' => e = .returned (.bool (decide (0 <= K /\ K < (n3 : Int)))) /\ Below w.heap.size w w' := by
 obtain ⟨V, hV⟩ : ∃ V, V = w.alloc (Obj.cells #[.slice a1 n1 c1, .slice a2 n2 c2, .slice a3 n3 c3] 37) := ⟨_, rfl⟩
 have HV : Hid (Below w.heap.size w V) := by rw [hV]; exact (Below.refl _ _).alloc (Nat.le_refl _) _
 have c2' : V.cell? ⟨w.heap.size, 2, none⟩ = some (.slice a3 n3 c3) := by rw [hV]; exact (Blk.new _ _ _).cell 2
 by_cases h0 : 0 <= K
 ·by_cases h1 : K < (n3 : Int)
  ·rw [decide_eq_true (show 0 <= K /\ K < (n3 : Int) from ⟨h0, h1⟩)]
   go_enter Tryz.func138, Tryz.ntmps138
   go_upto_region 1 with fail
   rw [<- hV]
   clear hV
   go_wp2_with fail
   go_ret
   exact ⟨by first | rfl | simp [h0], HV.out⟩
  ·rw [decide_eq_false (show ¬ (0 <= K /\ K < (n3 : Int)) from fun q => h1 q.2)]
   go_enter Tryz.func138, Tryz.ntmps138
   go_upto_region 1 with fail
   rw [<- hV]
   clear hV
   go_wp2_with fail
   go_ret
   exact ⟨by first | rfl | simp [h0], HV.out⟩
 ·rw [decide_eq_false (show ¬ (0 <= K /\ K < (n3 : Int)) from fun q => h0 q.1)]
  go_enter Tryz.func138, Tryz.ntmps138
  go_upto_region 1 with fail
  rw [<- hV]
  clear hV
  go_wp2_with fail
  go_ret
  exact ⟨by first | rfl | simp [h0], HV.out⟩
end Go.Proofs.YtabfamhaihnccaaGreat
namespace Go.Proofs.YtabfamhaihnccaaGreat
open Go.RowKit
set_option linter.unusedVariables false
def ruOk (c : Ru) : Bool := inB c.time 0 9999 && (polOk c.pol && inB c.usage 0 7)
theorem specRulesOk_any (c : Ru) (v : Value) (w : World) (hz : wtU c <= 1000000000) (ha : RuAt w v c) :
  Calls Tryz.prog 78 #[v] w fun e w' => e = .returned (.bool (ruOk c)) /\ Below w.heap.size w w' := by
 obtain ⟨pv, rfl, h1⟩ := ha
 obtain ⟨pa, pc, hpa⟩ : ∃ ao cap, pv = .slice ao c.pol.length cap := by obtain ⟨ao, cap, h, _⟩ := h1; exact ⟨ao, cap, h⟩
 obtain ⟨lp, hlp⟩ := zE (c.pol.length)
 rw [hlp] at hpa
 subst hpa
 obtain ⟨B1, hB1⟩ := zE (inB c.time 0 9999)
 have E1 : Hid (∀ W, Below w.heap.size w W -> Calls Tryz.prog 31 #[.int .i64 c.time] W fun e w' => e = .returned (.bool B1) /\ Below W.heap.size W w') := fun W hb => by rw [<- hB1]; exact num_any _ W
 obtain ⟨B2, hB2⟩ := zE (polOk c.pol)
 have E2 : Hid (∀ W, Below w.heap.size w W -> Calls Tryz.prog 125 #[.slice pa lp pc] W fun e w' => e = .returned (.bool B2) /\ Below W.heap.size W w') := fun W hb => by rw [<- hB2]; exact specIok_any _ c.pol W hz (h1.below hb)
 obtain ⟨B3, hB3⟩ := zE (inB c.usage 0 7)
 have E3 : Hid (∀ W, Below w.heap.size w W -> Calls Tryz.prog 30 #[.int .i64 c.usage, .int .i64 0, .int .i64 7] W fun e w' => e = .returned (.bool B3) /\ Below W.heap.size W w') := fun W hb => by rw [<- hB3]; exact in_any _ _ _ W
 have HC : Hid (ruOk c = (B1 && (B2 && B3))) := by show ruOk c = _; unfold ruOk; rw [hB1, hB2, hB3]
 clear hB1 hB2 hB3 h1 hlp hz
 unfold ruV
 go_enter Tryz.func78, Tryz.ntmps78
 go_wp2_with fail
 obtain ⟨V0, hV⟩ : ∃ V, V = w.alloc (Obj.cells #[.int .i64 c.time, .slice pa lp pc, .bool c.expl, .bool c.chk, .int .i64 c.usage] 125) := ⟨_, rfl⟩
 rw [<- hV]
 have G0 : Hid (Below w.heap.size w V0 /\ Blk V0 w.heap.size 125 #[.int .i64 c.time, .slice pa lp pc, .bool c.expl, .bool c.chk, .int .i64 c.usage]) := by rw [hV]; exact ⟨(Below.refl _ _).alloc (Nat.le_refl _) _, Blk.new w _ _⟩
 clear hV
 refine (E1.out V0 G0.out.1).mono ?_
 rintro e V1 ⟨rfl, hb⟩
 have G1 : Hid (Below w.heap.size w V1 /\ Blk V1 w.heap.size 125 #[.int .i64 c.time, .slice pa lp pc, .bool c.expl, .bool c.chk, .int .i64 c.usage]) := ⟨G0.out.1.trans (hb.mono G0.out.1.size), G0.out.2.below hb G0.out.2.lt⟩
 clear hb E1 G0
 have c10 : V1.cell? ⟨w.heap.size, 0, none⟩ = some (.int .i64 c.time) := G1.out.2.cell 0
 have c11 : V1.cell? ⟨w.heap.size, 1, none⟩ = some (.slice pa lp pc) := G1.out.2.cell 1
 have c12 : V1.cell? ⟨w.heap.size, 2, none⟩ = some (.bool c.expl) := G1.out.2.cell 2
 have c13 : V1.cell? ⟨w.heap.size, 3, none⟩ = some (.bool c.chk) := G1.out.2.cell 3
 have c14 : V1.cell? ⟨w.heap.size, 4, none⟩ = some (.int .i64 c.usage) := G1.out.2.cell 4
 cases B1 with
 | false =>
  go_wp2_with fail
  go_ret
  exact ⟨by rw [HC.out]; rfl, G1.out.1⟩
 | true =>
  go_wp2_with fail
  refine (E2.out V1 G1.out.1).mono ?_
  rintro e V2 ⟨rfl, hb⟩
  have G2 : Hid (Below w.heap.size w V2 /\ Blk V2 w.heap.size 125 #[.int .i64 c.time, .slice pa lp pc, .bool c.expl, .bool c.chk, .int .i64 c.usage]) := ⟨G1.out.1.trans (hb.mono G1.out.1.size), G1.out.2.below hb G1.out.2.lt⟩
  clear hb E2 G1
  have c20 : V2.cell? ⟨w.heap.size, 0, none⟩ = some (.int .i64 c.time) := G2.out.2.cell 0
  have c21 : V2.cell? ⟨w.heap.size, 1, none⟩ = some (.slice pa lp pc) := G2.out.2.cell 1
  have c22 : V2.cell? ⟨w.heap.size, 2, none⟩ = some (.bool c.expl) := G2.out.2.cell 2
  have c23 : V2.cell? ⟨w.heap.size, 3, none⟩ = some (.bool c.chk) := G2.out.2.cell 3
  have c24 : V2.cell? ⟨w.heap.size, 4, none⟩ = some (.int .i64 c.usage) := G2.out.2.cell 4
  cases B2 with
  | false =>
   go_wp2_with fail
   go_ret
   exact ⟨by rw [HC.out]; rfl, G2.out.1⟩
  | true =>
   go_wp2_with fail
   refine (E3.out V2 G2.out.1).mono ?_
   rintro e V3 ⟨rfl, hb⟩
   have G3 : Hid (Below w.heap.size w V3 /\ Blk V3 w.heap.size 125 #[.int .i64 c.time, .slice pa lp pc, .bool c.expl, .bool c.chk, .int .i64 c.usage]) := ⟨G2.out.1.trans (hb.mono G2.out.1.size), G2.out.2.below hb G2.out.2.lt⟩
   clear hb E3 G2
   have c30 : V3.cell? ⟨w.heap.size, 0, none⟩ = some (.int .i64 c.time) := G3.out.2.cell 0
   have c31 : V3.cell? ⟨w.heap.size, 1, none⟩ = some (.slice pa lp pc) := G3.out.2.cell 1
   have c32 : V3.cell? ⟨w.heap.size, 2, none⟩ = some (.bool c.expl) := G3.out.2.cell 2
   have c33 : V3.cell? ⟨w.heap.size, 3, none⟩ = some (.bool c.chk) := G3.out.2.cell 3
   have c34 : V3.cell? ⟨w.heap.size, 4, none⟩ = some (.int .i64 c.usage) := G3.out.2.cell 4
   go_wp2_with fail
   go_ret
   exact ⟨by rw [HC.out]; rfl, G3.out.1⟩
theorem implRulesOk_any (c : Ru) (v : Value) (w : World) (hz : wtU c <= 1000000000) (ha : RuAt w v c) :
  Calls Tryz.prog 174 #[v] w fun e w' => e = .returned (.bool (ruOk c)) /\ Below w.heap.size w w' := by
 obtain ⟨pv, rfl, h1⟩ := ha
 obtain ⟨pa, pc, hpa⟩ : ∃ ao cap, pv = .slice ao c.pol.length cap := by obtain ⟨ao, cap, h, _⟩ := h1; exact ⟨ao, cap, h⟩
 obtain ⟨lp, hlp⟩ := zE (c.pol.length)
 rw [hlp] at hpa
 subst hpa
 obtain ⟨B1, hB1⟩ := zE (inB c.time 0 9999)
 have E1 : Hid (∀ W, Below w.heap.size w W -> Calls Tryz.prog 37 #[.int .i64 9999, .int .i64 c.time] W fun e w' => e = .returned (.bool B1) /\ Below W.heap.size W w') := fun W hb => by rw [<- hB1]; exact upTo_any _ _ W
 obtain ⟨B2, hB2⟩ := zE (polOk c.pol)
 have E2 : Hid (∀ W, Below w.heap.size w W -> Calls Tryz.prog 160 #[.slice pa lp pc] W fun e w' => e = .returned (.bool B2) /\ Below W.heap.size W w') := fun W hb => by rw [<- hB2]; exact implIok_any _ c.pol W hz (h1.below hb)
 obtain ⟨B3, hB3⟩ := zE (inB c.usage 0 7)
 have E3 : Hid (∀ W, Below w.heap.size w W -> Calls Tryz.prog 37 #[.int .i64 7, .int .i64 c.usage] W fun e w' => e = .returned (.bool B3) /\ Below W.heap.size W w') := fun W hb => by rw [<- hB3]; exact upTo_any _ _ W
 have HC : Hid (ruOk c = (B1 && (B2 && B3))) := by show ruOk c = _; unfold ruOk; rw [hB1, hB2, hB3]
 clear hB1 hB2 hB3 h1 hlp hz
 unfold ruV
 go_enter Tryz.func174, Tryz.ntmps174
 go_wp2_with fail
 obtain ⟨V0, hV⟩ : ∃ V, V = w.alloc (Obj.cells #[.int .i64 c.time, .slice pa lp pc, .bool c.expl, .bool c.chk, .int .i64 c.usage] 125) := ⟨_, rfl⟩
 rw [<- hV]
 have G0 : Hid (Below w.heap.size w V0 /\ Blk V0 w.heap.size 125 #[.int .i64 c.time, .slice pa lp pc, .bool c.expl, .bool c.chk, .int .i64 c.usage]) := by rw [hV]; exact ⟨(Below.refl _ _).alloc (Nat.le_refl _) _, Blk.new w _ _⟩
 clear hV
 refine (E1.out V0 G0.out.1).mono ?_
 rintro e V1 ⟨rfl, hb⟩
 have G1 : Hid (Below w.heap.size w V1 /\ Blk V1 w.heap.size 125 #[.int .i64 c.time, .slice pa lp pc, .bool c.expl, .bool c.chk, .int .i64 c.usage]) := ⟨G0.out.1.trans (hb.mono G0.out.1.size), G0.out.2.below hb G0.out.2.lt⟩
 clear hb E1 G0
 have c10 : V1.cell? ⟨w.heap.size, 0, none⟩ = some (.int .i64 c.time) := G1.out.2.cell 0
 have c11 : V1.cell? ⟨w.heap.size, 1, none⟩ = some (.slice pa lp pc) := G1.out.2.cell 1
 have c12 : V1.cell? ⟨w.heap.size, 2, none⟩ = some (.bool c.expl) := G1.out.2.cell 2
 have c13 : V1.cell? ⟨w.heap.size, 3, none⟩ = some (.bool c.chk) := G1.out.2.cell 3
 have c14 : V1.cell? ⟨w.heap.size, 4, none⟩ = some (.int .i64 c.usage) := G1.out.2.cell 4
 cases B1 with
 | false =>
  go_wp2_with fail
  go_ret
  exact ⟨by rw [HC.out]; rfl, G1.out.1⟩
 | true =>
  go_wp2_with fail
  refine (E2.out V1 G1.out.1).mono ?_
  rintro e V2 ⟨rfl, hb⟩
  have G2 : Hid (Below w.heap.size w V2 /\ Blk V2 w.heap.size 125 #[.int .i64 c.time, .slice pa lp pc, .bool c.expl, .bool c.chk, .int .i64 c.usage]) := ⟨G1.out.1.trans (hb.mono G1.out.1.size), G1.out.2.below hb G1.out.2.lt⟩
  clear hb E2 G1
  have c20 : V2.cell? ⟨w.heap.size, 0, none⟩ = some (.int .i64 c.time) := G2.out.2.cell 0
  have c21 : V2.cell? ⟨w.heap.size, 1, none⟩ = some (.slice pa lp pc) := G2.out.2.cell 1
  have c22 : V2.cell? ⟨w.heap.size, 2, none⟩ = some (.bool c.expl) := G2.out.2.cell 2
  have c23 : V2.cell? ⟨w.heap.size, 3, none⟩ = some (.bool c.chk) := G2.out.2.cell 3
  have c24 : V2.cell? ⟨w.heap.size, 4, none⟩ = some (.int .i64 c.usage) := G2.out.2.cell 4
  cases B2 with
  | false =>
   go_wp2_with fail
   go_ret
   exact ⟨by rw [HC.out]; rfl, G2.out.1⟩
  | true =>
   go_wp2_with fail
   refine (E3.out V2 G2.out.1).mono ?_
   rintro e V3 ⟨rfl, hb⟩
   have G3 : Hid (Below w.heap.size w V3 /\ Blk V3 w.heap.size 125 #[.int .i64 c.time, .slice pa lp pc, .bool c.expl, .bool c.chk, .int .i64 c.usage]) := ⟨G2.out.1.trans (hb.mono G2.out.1.size), G2.out.2.below hb G2.out.2.lt⟩
   clear hb E3 G2
   have c30 : V3.cell? ⟨w.heap.size, 0, none⟩ = some (.int .i64 c.time) := G3.out.2.cell 0
   have c31 : V3.cell? ⟨w.heap.size, 1, none⟩ = some (.slice pa lp pc) := G3.out.2.cell 1
   have c32 : V3.cell? ⟨w.heap.size, 2, none⟩ = some (.bool c.expl) := G3.out.2.cell 2
   have c33 : V3.cell? ⟨w.heap.size, 3, none⟩ = some (.bool c.chk) := G3.out.2.cell 3
   have c34 : V3.cell? ⟨w.heap.size, 4, none⟩ = some (.int .i64 c.usage) := G3.out.2.cell 4
   go_wp2_with fail
   go_ret
   exact ⟨by rw [HC.out]; rfl, G3.out.1⟩
def IxP (b : Bool) (w : World) (e : Ending) (w' : World) : Prop := ∃ n : Int, e = .returned (.int .i64 n) /\ decide (0 <= n) = b /\ Below w.heap.size w w'
end Go.Proofs.YtabfamhaihnccaaGreat
namespace Go.Proofs.YtabfamhaihnccaaGreat
open Go.RowKit
set_option linter.unusedVariables false
set_option linter.unusedSimpArgs false
def inN (n : Nat) (K : Int) : Bool := decide (0 <= K /\ K < (n : Int))
def plOk (m : Nat) (p : Pn) : Bool := inB p.id 0 99 && (ruOk { p.ru with time := 0 } && (inB (p.anc.length : Int) 1 3 && (ascG lsI 0 p.anc && p.anc.all (inN m))))
def plansOk (m : Nat) (l : List Pn) : Bool := decide (l.length <= 6) && (l.all (plOk m) && ascG lsI 0 (l.map Pn.id))
theorem inN_no {l : List Int} {m k : Nat} (hk : k < l.length) (h : inN m (l.getD k 0) = false) : l.all (inN m) = false := by
 rw [Bool.eq_false_iff]
 intro q
 have e : l.getD k 0 = l[k] := by simp [List.getD, hk]
 have := List.all_eq_true.1 q l[k] (List.getElem_mem hk)
 rw [<- e, h] at this
 cases this
theorem inN_yes {l : List Int} {m : Nat} (h : ∀ k, k < l.length -> inN m (l.getD k 0) = true) : l.all (inN m) = true := by
 rw [List.all_eq_true]
 intro x hx
 obtain ⟨k, hk, rfl⟩ := List.getElem_of_mem hx
 have := h k hk
 have e : l.getD k 0 = l[k] := by simp [List.getD, hk]
 rwa [e] at this
theorem plans_no {l : List Pn} {m k : Nat} (hk : k < l.length) (h : plOk m l[k] = false) : plansOk m l = false := by
 have : l.all (plOk m) = false := by
  rw [Bool.eq_false_iff]
  intro q
  have := List.all_eq_true.1 q l[k] (List.getElem_mem hk)
  rw [h] at this
  cases this
 unfold plansOk
 rw [this]
 simp
theorem plans_long {l : List Pn} {m : Nat} (h : ¬ l.length <= 6) : plansOk m l = false := by
 unfold plansOk
 rw [decide_eq_false h]
 rfl
theorem plans_all {l : List Pn} {m : Nat} (h6 : l.length <= 6) (h : ∀ k (hk : k < l.length), plOk m l[k] = true) : plansOk m l = ascG lsI 0 (l.map Pn.id) := by
 have : l.all (plOk m) = true := by
  rw [List.all_eq_true]
  intro x hx
  obtain ⟨k, hk, rfl⟩ := List.getElem_of_mem hx
  exact h k hk
 unfold plansOk
 rw [this, decide_eq_true h6]
 rfl
theorem oneI_new (w : World) (x : Int) : OwnI (w.alloc (Obj.cells #[.int .i64 x] 3)) w.heap.size (.slice (some ⟨w.heap.size, 0, none⟩) 1 1) [x] :=
 ⟨rfl, .inr ⟨w.heap.size, 1, #[.int .i64 x], rfl, Nat.le_refl _, heap_alloc_new w _, Nat.le_refl _, by decide, rfl, rfl⟩⟩
def orM (n one : Int) (met : Bool) : Int := if met then bits BinOp.or IntKind.u8 n one else n
def nmV (b1 b2 b3 b4 b5 : Bool) : Int := orM (orM (orM (orM (orM 0 1 b1) 2 b2) 4 b3) 8 b4) 16 b5
theorem nm_all (b1 b2 b3 b4 b5 : Bool) : (nmV b1 b2 b3 b4 b5 != 31) = !(b1 && (b2 && (b3 && (b4 && b5)))) := by
 cases b1 <;> cases b2 <;> cases b3 <;> cases b4 <;> cases b5 <;> decide
theorem plus_any (n one : Int) (met : Bool) (w : World) : Calls Tryz.prog 139 #[.int .u8 n, .int .u8 one, .bool met] w fun e w' => e = .returned (.int .u8 (orM n one met)) /\ Below w.heap.size w w' := by
 cases met with
 | false =>
  go_enter Tryz.func139, Tryz.ntmps139
  go_wp2_with fail
  go_ret
  exact ⟨rfl, Below.refl _ _⟩
 | true =>
  go_enter Tryz.func139, Tryz.ntmps139
  go_wp2_with fail
  go_ret
  exact ⟨rfl, Below.refl _ _⟩
theorem missing_any (a1 : Option Addr) (n1 c1 : Nat) (a2 : Option Addr) (n2 c2 : Nat) (a3 : Option Addr) (n3 c3 : Nat) (gS : Nat) (K : Int) (w : World) (hn : n3 <= 1000000000) (hs : Blk w gS 37 #[.slice a1 n1 c1, .slice a2 n2 c2, .slice a3 n3 c3]) :
  Calls Tryz.prog 137 #[.int .i64 K, .pointer (some ⟨gS, 0, none⟩)] w fun e w' => e = .returned (.bool (!inN n3 K)) /\ Below w.heap.size w w' := by
 have EH := hasAnchor_any a1 n1 c1 a2 n2 c2 a3 n3 c3 K w hn
 obtain ⟨B, hB⟩ := zE (decide (0 <= K /\ K < (n3 : Int)))
 have hB2 : inN n3 K = B := hB
 rw [hB] at EH
 rw [hB2]
 have s0 : w.cell? ⟨gS, 0, none⟩ = some (.slice a1 n1 c1) := hs.cell 0
 have s1 : w.cell? ⟨gS, 1, none⟩ = some (.slice a2 n2 c2) := hs.cell 1
 have s2 : w.cell? ⟨gS, 2, none⟩ = some (.slice a3 n3 c3) := hs.cell 2
 clear hB hB2 hs
 go_enter Tryz.func137, Tryz.ntmps137
 go_wp2_with fail
 refine EH.mono ?_
 rintro e w2 ⟨rfl, hb⟩
 have G : Hid (Below w.heap.size w w2) := hb
 clear EH hb s0 s1 s2
 go_wp2_with fail
 go_ret
 exact ⟨rfl, G.out⟩
theorem indexMissing_any (l : List Int) (v : Value) (a1 : Option Addr) (n1 c1 : Nat) (a2 : Option Addr) (n2 c2 : Nat) (a3 : Option Addr) (n3 c3 : Nat) (gS : Nat) (w : World) (hl : l.length <= 1000000000) (hn : n3 <= 1000000000) (hs : Blk w gS 37 #[.slice a1 n1 c1, .slice a2 n2 c2, .slice a3 n3 c3]) (ha : IntAt w v l) :
  Calls Tryz.prog 175 #[v, .func (.func 137) #[] #[.pointer (some ⟨gS, 0, none⟩)]] w fun e w' => IxP (!l.all (inN n3)) w e w' := by
 obtain ⟨pa, pc, hpa, hcell⟩ := ha.each
 obtain ⟨n, hn2⟩ := zE (l.length)
 rw [hn2] at hpa hl
 subst hpa
 have HT : Hid ((∀ j, j < n -> ∃ g, pa = some ⟨g, 0, none⟩ /\ g < w.heap.size /\ w.cell? ⟨g, j, none⟩ = some (.int .i64 (l.getD j 0))) /\ l.length = n) := ⟨fun j hj => hcell j (by omega), hn2⟩
 have HM : Hid (∀ (K : Int) (W : World), Below w.heap.size w W -> Calls Tryz.prog 137 #[.int .i64 K, .pointer (some ⟨gS, 0, none⟩)] W fun e w' => e = .returned (.bool (!inN n3 K)) /\ Below W.heap.size W w') := fun K W hb => missing_any a1 n1 c1 a2 n2 c2 a3 n3 c3 gS K W hn (hs.below hb hs.lt)
 clear hcell hn2 ha hs
 go_enter Tryz.func175, Tryz.ntmps175
 go_wp2_with fail
 go_loopw [8] (fun iv wr => ∃ k : Nat, k <= n /\ iv = .int .i64 k /\ Hid (∀ j, j < k -> inN n3 (l.getD j 0) = true) /\ Hid (Below w.heap.size w wr)) (fun iv _ => n - (intOf iv).toNat)
 case atStart => exact ⟨0, Nat.zero_le _, rfl, fun j hj => absurd hj (Nat.not_lt_zero _), Below.refl _ _⟩
 case round =>
  obtain ⟨k, hk, rfl, HL, G1⟩ := hrel
  by_cases hlt : k < n
  ·obtain ⟨g, hpg, hgw, hcs⟩ := HT.out.1 k hlt
   obtain ⟨K, hK⟩ := zE (l.getD k 0)
   rw [hK] at hcs
   have HK : Hid (l.getD k 0 = K) := hK
   have hc1 : wr.cell? ⟨g, k, none⟩ = some (.int .i64 K) := (G1.out.cell (p := ⟨g, k, none⟩) hgw).trans hcs
   have hki : (k : Int) < (n : Int) := by omega
   have hk0 : (0 : Int) <= (k : Int) := by omega
   have EA := HM.out K wr G1.out
   obtain ⟨B, hB⟩ := zE (inN n3 K)
   have HB : Hid (inN n3 K = B) := hB
   rw [hB] at EA
   subst hpg
   clear hcs hgw hK hB
   go_wp2_with fail
   refine EA.mono ?_
   rintro e w2 ⟨rfl, hb⟩
   have G2 : Hid (Below w.heap.size w w2) := G1.out.trans (hb.mono G1.out.size)
   clear EA hb G1 hc1
   cases B with
   | false =>
    have HF : Hid (l.all (inN n3) = false) := inN_no (k := k) (by rw [HT.out.2]; exact hlt) (by rw [HK.out]; exact HB.out)
    go_wp2_with fail
    go_ret
    exact ⟨_, rfl, by rw [HF.out]; exact decide_eq_true hk0, G2.out⟩
   | true =>
    have HN : Hid (∀ j, j < k + 1 -> inN n3 (l.getD j 0) = true) := fun j h => by
     rcases Nat.lt_or_ge j k with h | h
     ·exact HL.out j h
     ·have : j = k := by omega
      subst this
      rw [HK.out]
      exact HB.out
    clear HL
    go_wp2_with fail
    go_roundw
    case rel => exact ⟨k + 1, by omega, by go_num, HN, G2⟩
    case measure => simp [intOf]; omega
  ·have hkl : n = k := by omega
   subst hkl
   have HF : Hid (l.all (inN n3) = true) := inN_yes (fun j hj => HL.out j (by rw [<- HT.out.2]; exact hj))
   go_wp2_with fail
   go_ret
   exact ⟨_, rfl, by rw [HF.out]; rfl, G1.out⟩
theorem containsMissing_any (l : List Int) (v : Value) (a1 : Option Addr) (n1 c1 : Nat) (a2 : Option Addr) (n2 c2 : Nat) (a3 : Option Addr) (n3 c3 : Nat) (gS : Nat) (w : World) (hl : l.length <= 1000000000) (hn : n3 <= 1000000000) (hs : Blk w gS 37 #[.slice a1 n1 c1, .slice a2 n2 c2, .slice a3 n3 c3]) (ha : IntAt w v l) :
  Calls Tryz.prog 141 #[v, .func (.func 137) #[] #[.pointer (some ⟨gS, 0, none⟩)]] w fun e w' => e = .returned (.bool (!l.all (inN n3))) /\ Below w.heap.size w w' := by
 have EA := indexMissing_any l v a1 n1 c1 a2 n2 c2 a3 n3 c3 gS w hl hn hs ha
 obtain ⟨pa, pc, hpa, -⟩ := ha.each
 obtain ⟨n, hn2⟩ := zE (l.length)
 rw [hn2] at hpa
 subst hpa
 obtain ⟨B, hB⟩ := zE ((!l.all (inN n3)))
 rw [hB] at EA |-
 clear hB ha hn2 hs hl
 go_enter Tryz.func141, Tryz.ntmps141
 go_wp2_with fail
 refine EA.mono ?_
 rintro e w2 ⟨q, rfl, hq, hb⟩
 have G2 : Hid (Below w.heap.size w w2) := hb
 have HN : Hid (decide (0 <= q) = B) := hq
 clear EA hb hq
 go_wp2_with fail
 go_ret
 exact ⟨by show Ending.returned (.bool (decide (0 <= q))) = _; rw [HN.out], G2.out⟩
theorem anyTime_any (c : Ru) (v : Value) (w : World) (hz : wtU c <= 1000000000) (ha : RuAt w v c) :
  Calls Tryz.prog 140 #[v] w fun e w' => e = .returned (.bool (ruOk { c with time := 0 })) /\ Below w.heap.size w w' := by
 obtain ⟨pv, rfl, h1⟩ := ha
 obtain ⟨pa, pc, hpa, -⟩ := h1.each
 obtain ⟨lp, hlp⟩ := zE (c.pol.length)
 rw [hlp] at hpa
 subst hpa
 obtain ⟨V, hV⟩ : ∃ V, V = w.alloc (Obj.cells #[.int .i64 0, .slice pa lp pc, .bool c.expl, .bool c.chk, .int .i64 c.usage] 125) := ⟨_, rfl⟩
 have HV : Hid (Below w.heap.size w V /\ Blk V w.heap.size 125 #[.int .i64 0, .slice pa lp pc, .bool c.expl, .bool c.chk, .int .i64 c.usage]) := by rw [hV]; exact ⟨(Below.refl _ _).alloc (Nat.le_refl _) _, Blk.new _ _ _⟩
 have ER : Calls Tryz.prog 174 #[.agg #[.int .i64 0, .slice pa lp pc, .bool c.expl, .bool c.chk, .int .i64 c.usage]] V fun e w' => e = .returned (.bool (ruOk { c with time := 0 })) /\ Below V.heap.size V w' := implRulesOk_any { c with time := 0 } _ V hz ⟨.slice pa lp pc, rfl, h1.below HV.out.1⟩
 obtain ⟨B, hB⟩ := zE (ruOk { c with time := 0 })
 rw [hB] at ER |-
 have d0 : V.cell? ⟨w.heap.size, 0, none⟩ = some (.int .i64 0) := HV.out.2.cell 0
 have d1 : V.cell? ⟨w.heap.size, 1, none⟩ = some (.slice pa lp pc) := HV.out.2.cell 1
 have d2 : V.cell? ⟨w.heap.size, 2, none⟩ = some (.bool c.expl) := HV.out.2.cell 2
 have d3 : V.cell? ⟨w.heap.size, 3, none⟩ = some (.bool c.chk) := HV.out.2.cell 3
 have d4 : V.cell? ⟨w.heap.size, 4, none⟩ = some (.int .i64 c.usage) := HV.out.2.cell 4
 clear hB h1 hlp hz
 unfold ruV
 go_enter Tryz.func140, Tryz.ntmps140
 go_upto_region 2 with fail
 change Code.wp _ _ _ _ (w.alloc (Obj.cells #[.int .i64 0, .slice pa lp pc, .bool c.expl, .bool c.chk, .int .i64 c.usage] 125))
 rw [<- hV]
 clear hV
 go_wp2_with fail
 refine ER.mono ?_
 rintro e w2 ⟨rfl, hb⟩
 have G : Hid (Below w.heap.size w w2) := HV.out.1.trans (hb.mono HV.out.1.size)
 clear ER hb d0 d1 d2 d3 d4
 go_wp2_with fail
 go_ret
 exact ⟨rfl, G.out⟩
end Go.Proofs.YtabfamhaihnccaaGreat
