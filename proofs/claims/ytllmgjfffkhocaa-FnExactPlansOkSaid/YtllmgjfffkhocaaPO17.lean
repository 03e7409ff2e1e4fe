/-
  Texts of the proof.
-/
import Derived.Deep.RegionHeld3
import Derived.Laws.StructEq
import Derived.Laws.Rows
import Derived.Test.YtllmgjfffkhocaaShelf
import Derived.Laws.IdiomStrings
import Derived.Laws.AppendOwnNone
import Derived.Deep.AppendLies
import Derived.Deep.AppendSrc
import Derived.Deep.RegionLaw
import Derived.Deep.WholeRow
import Derived.StillTailTactics
import Derived.Laws.OwnMore
import Derived.OwnWalk
import Derived.Deep.LoopGhost
import Derived.Deep.MidRow
import Derived.Laws.RangeString
import Derived.Laws.RangeAny
import Derived.Lib.SlicesS
import Derived.Test.YtllmgjfffkhocaaPO16
set_option maxRecDepth 100000
set_option maxHeartbeats 25600000
namespace Go.Proofs.Ytllmgjfffkhocaa
open Go.RowKit
set_option linter.unusedVariables false
theorem upTo_any (hi n : Int) (w : World) : Calls Try.prog 79 #[.int .i64 hi, .int .i64 n] w fun e w' => e = .returned (.bool (inB n 0 hi)) /\ Below w.heap.size w w' := by
 by_cases h : 0 <= n
 ·by_cases h2 : n <= hi
  ·have HB : Hid (inB n 0 hi = true) := decide_eq_true ⟨h, h2⟩
   go_enter Try.func79, Try.ntmps79
   go_wp2_with fail
   go_ret
   exact ⟨by rw [HB.out]; simp [*], Below.refl _ _⟩
  ·have HB : Hid (inB n 0 hi = false) := decide_eq_false (fun q => h2 q.2)
   go_enter Try.func79, Try.ntmps79
   go_wp2_with fail
   go_ret
   exact ⟨by rw [HB.out]; simp [*], Below.refl _ _⟩
 ·have HB : Hid (inB n 0 hi = false) := decide_eq_false (fun q => h q.1)
  go_enter Try.func79, Try.ntmps79
  go_wp2_with fail
  go_ret
  exact ⟨by rw [HB.out]; simp [*], Below.refl _ _⟩
end Go.Proofs.Ytllmgjfffkhocaa
namespace Go.Proofs.Ytllmgjfffkhocaa
open Go.RowKit
set_option linter.unusedVariables false
set_option linter.unusedSimpArgs false
theorem hasAnchor_any (a1 : Option Addr) (n1 c1 : Nat) (a2 : Option Addr) (n2 c2 : Nat) (a3 : Option Addr) (n3 c3 : Nat) (K : Int) (w : World) (hn : n3 <= 1000000000) :
  Calls Try.prog 61 #[.agg #[.slice a1 n1 c1, .slice a2 n2 c2, .slice a3 n3 c3], .int .i64 K] w fun e w' => e = .returned (.bool (decide (0 <= K /\ K < (n3 : Int)))) /\ Below w.heap.size w w' := by
 obtain ⟨V, hV⟩ : ∃ V, V = w.alloc (Obj.cells #[.slice a1 n1 c1, .slice a2 n2 c2, .slice a3 n3 c3] 37) := ⟨_, rfl⟩
 have HV : Hid (Below w.heap.size w V) := by rw [hV]; exact (Below.refl _ _).alloc (Nat.le_refl _) _
 have c2' : V.cell? ⟨w.heap.size, 2, none⟩ = some (.slice a3 n3 c3) := by rw [hV]; exact (Blk.new _ _ _).cell 2
 by_cases h0 : 0 <= K
 ·by_cases h1 : K < (n3 : Int)
  ·rw [decide_eq_true (show 0 <= K /\ K < (n3 : Int) from ⟨h0, h1⟩)]
   go_enter Try.func61, Try.ntmps61
   go_upto_region 1 with fail
   rw [<- hV]
   clear hV
   go_wp2_with fail
   go_ret
   exact ⟨by first | rfl | simp [h0], HV.out⟩
  ·rw [decide_eq_false (show ¬ (0 <= K /\ K < (n3 : Int)) from fun q => h1 q.2)]
   go_enter Try.func61, Try.ntmps61
   go_upto_region 1 with fail
   rw [<- hV]
   clear hV
   go_wp2_with fail
   go_ret
   exact ⟨by first | rfl | simp [h0], HV.out⟩
 ·rw [decide_eq_false (show ¬ (0 <= K /\ K < (n3 : Int)) from fun q => h0 q.1)]
  go_enter Try.func61, Try.ntmps61
  go_upto_region 1 with fail
  rw [<- hV]
  clear hV
  go_wp2_with fail
  go_ret
  exact ⟨by first | rfl | simp [h0], HV.out⟩
end Go.Proofs.Ytllmgjfffkhocaa
namespace Go.Proofs.Ytllmgjfffkhocaa
open Go.RowKit
set_option linter.unusedVariables false
def ruOk (c : Ru) : Bool := inB c.time 0 9999 && (polOk c.pol && inB c.usage 0 7)
theorem specRulesOk_any (c : Ru) (v : Value) (w : World) (hz : wtU c <= 1000000000) (ha : RuAt w v c) :
  Calls Try.prog 38 #[v] w fun e w' => e = .returned (.bool (ruOk c)) /\ Below w.heap.size w w' := by
 obtain ⟨pv, rfl, h1⟩ := ha
 obtain ⟨pa, pc, hpa⟩ : ∃ ao cap, pv = .slice ao c.pol.length cap := by obtain ⟨ao, cap, h, _⟩ := h1; exact ⟨ao, cap, h⟩
 obtain ⟨lp, hlp⟩ := zE (c.pol.length)
 rw [hlp] at hpa
 subst hpa
 obtain ⟨B1, hB1⟩ := zE (inB c.time 0 9999)
 have E1 : Hid (∀ W, Below w.heap.size w W -> Calls Try.prog 72 #[.int .i64 c.time] W fun e w' => e = .returned (.bool B1) /\ Below W.heap.size W w') := fun W hb => by rw [<- hB1]; exact num_any _ W
 obtain ⟨B2, hB2⟩ := zE (polOk c.pol)
 have E2 : Hid (∀ W, Below w.heap.size w W -> Calls Try.prog 73 #[.slice pa lp pc] W fun e w' => e = .returned (.bool B2) /\ Below W.heap.size W w') := fun W hb => by rw [<- hB2]; exact specIok_any _ c.pol W hz (h1.below hb)
 obtain ⟨B3, hB3⟩ := zE (inB c.usage 0 7)
 have E3 : Hid (∀ W, Below w.heap.size w W -> Calls Try.prog 37 #[.int .i64 c.usage, .int .i64 0, .int .i64 7] W fun e w' => e = .returned (.bool B3) /\ Below W.heap.size W w') := fun W hb => by rw [<- hB3]; exact in_any _ _ _ W
 have HC : Hid (ruOk c = (B1 && (B2 && B3))) := by show ruOk c = _; unfold ruOk; rw [hB1, hB2, hB3]
 clear hB1 hB2 hB3 h1 hlp hz
 unfold ruV
 go_enter Try.func38, Try.ntmps38
 go_wp2_with fail
 obtain ⟨V0, hV⟩ : ∃ V, V = w.alloc (Obj.cells #[.int .i64 c.time, .slice pa lp pc, .bool c.expl, .bool c.chk, .int .i64 c.usage] 54) := ⟨_, rfl⟩
 rw [<- hV]
 have G0 : Hid (Below w.heap.size w V0 /\ Blk V0 w.heap.size 54 #[.int .i64 c.time, .slice pa lp pc, .bool c.expl, .bool c.chk, .int .i64 c.usage]) := by rw [hV]; exact ⟨(Below.refl _ _).alloc (Nat.le_refl _) _, Blk.new w _ _⟩
 clear hV
 refine (E1.out V0 G0.out.1).mono ?_
 rintro e V1 ⟨rfl, hb⟩
 have G1 : Hid (Below w.heap.size w V1 /\ Blk V1 w.heap.size 54 #[.int .i64 c.time, .slice pa lp pc, .bool c.expl, .bool c.chk, .int .i64 c.usage]) := ⟨G0.out.1.trans (hb.mono G0.out.1.size), G0.out.2.below hb G0.out.2.lt⟩
 clear hb E1 G0
 have c10 : V1.cell? ⟨w.heap.size, 0, none⟩ = some (.int .i64 c.time) := G1.out.2.cell 0
 have c11 : V1.cell? ⟨w.heap.size, 1, none⟩ = some (.slice pa lp pc) := G1.out.2.cell 1
 have c12 : V1.cell? ⟨w.heap.size, 2, none⟩ = some (.bool c.expl) := G1.out.2.cell 2
 have c13 : V1.cell? ⟨w.heap.size, 3, none⟩ = some (.bool c.chk) := G1.out.2.cell 3
 have c14 : V1.cell? ⟨w.heap.size, 4, none⟩ = some (.int .i64 c.usage) := G1.out.2.cell 4
 cases B1 with
 | false =>
  go_wp2_with fail
  go_ret
  exact ⟨by rw [HC.out]; rfl, G1.out.1⟩
 | true =>
  go_wp2_with fail
  refine (E2.out V1 G1.out.1).mono ?_
  rintro e V2 ⟨rfl, hb⟩
  have G2 : Hid (Below w.heap.size w V2 /\ Blk V2 w.heap.size 54 #[.int .i64 c.time, .slice pa lp pc, .bool c.expl, .bool c.chk, .int .i64 c.usage]) := ⟨G1.out.1.trans (hb.mono G1.out.1.size), G1.out.2.below hb G1.out.2.lt⟩
  clear hb E2 G1
  have c20 : V2.cell? ⟨w.heap.size, 0, none⟩ = some (.int .i64 c.time) := G2.out.2.cell 0
  have c21 : V2.cell? ⟨w.heap.size, 1, none⟩ = some (.slice pa lp pc) := G2.out.2.cell 1
  have c22 : V2.cell? ⟨w.heap.size, 2, none⟩ = some (.bool c.expl) := G2.out.2.cell 2
  have c23 : V2.cell? ⟨w.heap.size, 3, none⟩ = some (.bool c.chk) := G2.out.2.cell 3
  have c24 : V2.cell? ⟨w.heap.size, 4, none⟩ = some (.int .i64 c.usage) := G2.out.2.cell 4
  cases B2 with
  | false =>
   go_wp2_with fail
   go_ret
   exact ⟨by rw [HC.out]; rfl, G2.out.1⟩
  | true =>
   go_wp2_with fail
   refine (E3.out V2 G2.out.1).mono ?_
   rintro e V3 ⟨rfl, hb⟩
   have G3 : Hid (Below w.heap.size w V3 /\ Blk V3 w.heap.size 54 #[.int .i64 c.time, .slice pa lp pc, .bool c.expl, .bool c.chk, .int .i64 c.usage]) := ⟨G2.out.1.trans (hb.mono G2.out.1.size), G2.out.2.below hb G2.out.2.lt⟩
   clear hb E3 G2
   have c30 : V3.cell? ⟨w.heap.size, 0, none⟩ = some (.int .i64 c.time) := G3.out.2.cell 0
   have c31 : V3.cell? ⟨w.heap.size, 1, none⟩ = some (.slice pa lp pc) := G3.out.2.cell 1
   have c32 : V3.cell? ⟨w.heap.size, 2, none⟩ = some (.bool c.expl) := G3.out.2.cell 2
   have c33 : V3.cell? ⟨w.heap.size, 3, none⟩ = some (.bool c.chk) := G3.out.2.cell 3
   have c34 : V3.cell? ⟨w.heap.size, 4, none⟩ = some (.int .i64 c.usage) := G3.out.2.cell 4
   go_wp2_with fail
   go_ret
   exact ⟨by rw [HC.out]; rfl, G3.out.1⟩
theorem implRulesOk_any (c : Ru) (v : Value) (w : World) (hz : wtU c <= 1000000000) (ha : RuAt w v c) :
  Calls Try.prog 96 #[v] w fun e w' => e = .returned (.bool (ruOk c)) /\ Below w.heap.size w w' := by
 obtain ⟨pv, rfl, h1⟩ := ha
 obtain ⟨pa, pc, hpa⟩ : ∃ ao cap, pv = .slice ao c.pol.length cap := by obtain ⟨ao, cap, h, _⟩ := h1; exact ⟨ao, cap, h⟩
 obtain ⟨lp, hlp⟩ := zE (c.pol.length)
 rw [hlp] at hpa
 subst hpa
 obtain ⟨B1, hB1⟩ := zE (inB c.time 0 9999)
 have E1 : Hid (∀ W, Below w.heap.size w W -> Calls Try.prog 79 #[.int .i64 9999, .int .i64 c.time] W fun e w' => e = .returned (.bool B1) /\ Below W.heap.size W w') := fun W hb => by rw [<- hB1]; exact upTo_any _ _ W
 obtain ⟨B2, hB2⟩ := zE (polOk c.pol)
 have E2 : Hid (∀ W, Below w.heap.size w W -> Calls Try.prog 103 #[.slice pa lp pc] W fun e w' => e = .returned (.bool B2) /\ Below W.heap.size W w') := fun W hb => by rw [<- hB2]; exact implIok_any _ c.pol W hz (h1.below hb)
 obtain ⟨B3, hB3⟩ := zE (inB c.usage 0 7)
 have E3 : Hid (∀ W, Below w.heap.size w W -> Calls Try.prog 79 #[.int .i64 7, .int .i64 c.usage] W fun e w' => e = .returned (.bool B3) /\ Below W.heap.size W w') := fun W hb => by rw [<- hB3]; exact upTo_any _ _ W
 have HC : Hid (ruOk c = (B1 && (B2 && B3))) := by show ruOk c = _; unfold ruOk; rw [hB1, hB2, hB3]
 clear hB1 hB2 hB3 h1 hlp hz
 unfold ruV
 go_enter Try.func96, Try.ntmps96
 go_wp2_with fail
 obtain ⟨V0, hV⟩ : ∃ V, V = w.alloc (Obj.cells #[.int .i64 c.time, .slice pa lp pc, .bool c.expl, .bool c.chk, .int .i64 c.usage] 54) := ⟨_, rfl⟩
 rw [<- hV]
 have G0 : Hid (Below w.heap.size w V0 /\ Blk V0 w.heap.size 54 #[.int .i64 c.time, .slice pa lp pc, .bool c.expl, .bool c.chk, .int .i64 c.usage]) := by rw [hV]; exact ⟨(Below.refl _ _).alloc (Nat.le_refl _) _, Blk.new w _ _⟩
 clear hV
 refine (E1.out V0 G0.out.1).mono ?_
 rintro e V1 ⟨rfl, hb⟩
 have G1 : Hid (Below w.heap.size w V1 /\ Blk V1 w.heap.size 54 #[.int .i64 c.time, .slice pa lp pc, .bool c.expl, .bool c.chk, .int .i64 c.usage]) := ⟨G0.out.1.trans (hb.mono G0.out.1.size), G0.out.2.below hb G0.out.2.lt⟩
 clear hb E1 G0
 have c10 : V1.cell? ⟨w.heap.size, 0, none⟩ = some (.int .i64 c.time) := G1.out.2.cell 0
 have c11 : V1.cell? ⟨w.heap.size, 1, none⟩ = some (.slice pa lp pc) := G1.out.2.cell 1
 have c12 : V1.cell? ⟨w.heap.size, 2, none⟩ = some (.bool c.expl) := G1.out.2.cell 2
 have c13 : V1.cell? ⟨w.heap.size, 3, none⟩ = some (.bool c.chk) := G1.out.2.cell 3
 have c14 : V1.cell? ⟨w.heap.size, 4, none⟩ = some (.int .i64 c.usage) := G1.out.2.cell 4
 cases B1 with
 | false =>
  go_wp2_with fail
  go_ret
  exact ⟨by rw [HC.out]; rfl, G1.out.1⟩
 | true =>
  go_wp2_with fail
  refine (E2.out V1 G1.out.1).mono ?_
  rintro e V2 ⟨rfl, hb⟩
  have G2 : Hid (Below w.heap.size w V2 /\ Blk V2 w.heap.size 54 #[.int .i64 c.time, .slice pa lp pc, .bool c.expl, .bool c.chk, .int .i64 c.usage]) := ⟨G1.out.1.trans (hb.mono G1.out.1.size), G1.out.2.below hb G1.out.2.lt⟩
  clear hb E2 G1
  have c20 : V2.cell? ⟨w.heap.size, 0, none⟩ = some (.int .i64 c.time) := G2.out.2.cell 0
  have c21 : V2.cell? ⟨w.heap.size, 1, none⟩ = some (.slice pa lp pc) := G2.out.2.cell 1
  have c22 : V2.cell? ⟨w.heap.size, 2, none⟩ = some (.bool c.expl) := G2.out.2.cell 2
  have c23 : V2.cell? ⟨w.heap.size, 3, none⟩ = some (.bool c.chk) := G2.out.2.cell 3
  have c24 : V2.cell? ⟨w.heap.size, 4, none⟩ = some (.int .i64 c.usage) := G2.out.2.cell 4
  cases B2 with
  | false =>
   go_wp2_with fail
   go_ret
   exact ⟨by rw [HC.out]; rfl, G2.out.1⟩
  | true =>
   go_wp2_with fail
   refine (E3.out V2 G2.out.1).mono ?_
   rintro e V3 ⟨rfl, hb⟩
   have G3 : Hid (Below w.heap.size w V3 /\ Blk V3 w.heap.size 54 #[.int .i64 c.time, .slice pa lp pc, .bool c.expl, .bool c.chk, .int .i64 c.usage]) := ⟨G2.out.1.trans (hb.mono G2.out.1.size), G2.out.2.below hb G2.out.2.lt⟩
   clear hb E3 G2
   have c30 : V3.cell? ⟨w.heap.size, 0, none⟩ = some (.int .i64 c.time) := G3.out.2.cell 0
   have c31 : V3.cell? ⟨w.heap.size, 1, none⟩ = some (.slice pa lp pc) := G3.out.2.cell 1
   have c32 : V3.cell? ⟨w.heap.size, 2, none⟩ = some (.bool c.expl) := G3.out.2.cell 2
   have c33 : V3.cell? ⟨w.heap.size, 3, none⟩ = some (.bool c.chk) := G3.out.2.cell 3
   have c34 : V3.cell? ⟨w.heap.size, 4, none⟩ = some (.int .i64 c.usage) := G3.out.2.cell 4
   go_wp2_with fail
   go_ret
   exact ⟨by rw [HC.out]; rfl, G3.out.1⟩
end Go.Proofs.Ytllmgjfffkhocaa
