/-
  Texts of the proof, one behind the other: CsA, CrC.
-/
import Derived.Recover
import Derived.Test.YtgkaagmjipkeaaaM5
import Derived.Test.YtgkaagmjipkeaaaM24

/-
  The program's letterIn: what its deferred function does.
-/
namespace Go.Proofs.Ytgkaagmjipkeaaa
open Go.RowKit Der
set_option linter.unusedVariables false

theorem zero13 {V0 : World} {p : Nat} {ta : TypeId} {a0 a1 a2 a3 a4 a5 a6 a7 a8 a9 a10 a11 a12 : Value} (h : Blk V0 p ta #[a0, a1, a2, a3, a4, a5, a6, a7, a8, a9, a10, a11, a12]) : Blk (((((((((((((V0.setCell ⟨p, 0, none⟩ (.int .i64 0)).setCell ⟨p, 1, none⟩ (.string ⟨#[]⟩)).setCell ⟨p, 2, none⟩ (.string ⟨#[]⟩)).setCell ⟨p, 3, none⟩ (.int .i64 0)).setCell ⟨p, 4, none⟩ (.int .i64 0)).setCell ⟨p, 5, none⟩ (.string ⟨#[]⟩)).setCell ⟨p, 6, none⟩ (.bool false)).setCell ⟨p, 7, none⟩ (.int .i64 0)).setCell ⟨p, 8, none⟩ (.int .i64 0)).setCell ⟨p, 9, none⟩ (.slice none 0 0)).setCell ⟨p, 10, none⟩ (.slice none 0 0)).setCell ⟨p, 11, none⟩ (.slice none 0 0)).setCell ⟨p, 12, none⟩ (.string ⟨#[]⟩)) p ta #[.int .i64 0, .string ⟨#[]⟩, .string ⟨#[]⟩, .int .i64 0, .int .i64 0, .string ⟨#[]⟩, .bool false, .int .i64 0, .int .i64 0, .slice none 0 0, .slice none 0 0, .slice none 0 0, .string ⟨#[]⟩] := by
  have g0 : Blk _ p ta #[.int .i64 0, a1, a2, a3, a4, a5, a6, a7, a8, a9, a10, a11, a12] := h.set 0 (.int .i64 0)
  have g1 : Blk _ p ta #[.int .i64 0, .string ⟨#[]⟩, a2, a3, a4, a5, a6, a7, a8, a9, a10, a11, a12] := g0.set 1 (.string ⟨#[]⟩)
  have g2 : Blk _ p ta #[.int .i64 0, .string ⟨#[]⟩, .string ⟨#[]⟩, a3, a4, a5, a6, a7, a8, a9, a10, a11, a12] := g1.set 2 (.string ⟨#[]⟩)
  have g3 : Blk _ p ta #[.int .i64 0, .string ⟨#[]⟩, .string ⟨#[]⟩, .int .i64 0, a4, a5, a6, a7, a8, a9, a10, a11, a12] := g2.set 3 (.int .i64 0)
  have g4 : Blk _ p ta #[.int .i64 0, .string ⟨#[]⟩, .string ⟨#[]⟩, .int .i64 0, .int .i64 0, a5, a6, a7, a8, a9, a10, a11, a12] := g3.set 4 (.int .i64 0)
  have g5 : Blk _ p ta #[.int .i64 0, .string ⟨#[]⟩, .string ⟨#[]⟩, .int .i64 0, .int .i64 0, .string ⟨#[]⟩, a6, a7, a8, a9, a10, a11, a12] := g4.set 5 (.string ⟨#[]⟩)
  have g6 : Blk _ p ta #[.int .i64 0, .string ⟨#[]⟩, .string ⟨#[]⟩, .int .i64 0, .int .i64 0, .string ⟨#[]⟩, .bool false, a7, a8, a9, a10, a11, a12] := g5.set 6 (.bool false)
  have g7 : Blk _ p ta #[.int .i64 0, .string ⟨#[]⟩, .string ⟨#[]⟩, .int .i64 0, .int .i64 0, .string ⟨#[]⟩, .bool false, .int .i64 0, a8, a9, a10, a11, a12] := g6.set 7 (.int .i64 0)
  have g8 : Blk _ p ta #[.int .i64 0, .string ⟨#[]⟩, .string ⟨#[]⟩, .int .i64 0, .int .i64 0, .string ⟨#[]⟩, .bool false, .int .i64 0, .int .i64 0, a9, a10, a11, a12] := g7.set 8 (.int .i64 0)
  have g9 : Blk _ p ta #[.int .i64 0, .string ⟨#[]⟩, .string ⟨#[]⟩, .int .i64 0, .int .i64 0, .string ⟨#[]⟩, .bool false, .int .i64 0, .int .i64 0, .slice none 0 0, a10, a11, a12] := g8.set 9 (.slice none 0 0)
  have g10 : Blk _ p ta #[.int .i64 0, .string ⟨#[]⟩, .string ⟨#[]⟩, .int .i64 0, .int .i64 0, .string ⟨#[]⟩, .bool false, .int .i64 0, .int .i64 0, .slice none 0 0, .slice none 0 0, a11, a12] := g9.set 10 (.slice none 0 0)
  have g11 : Blk _ p ta #[.int .i64 0, .string ⟨#[]⟩, .string ⟨#[]⟩, .int .i64 0, .int .i64 0, .string ⟨#[]⟩, .bool false, .int .i64 0, .int .i64 0, .slice none 0 0, .slice none 0 0, .slice none 0 0, a12] := g10.set 11 (.slice none 0 0)
  have g12 : Blk _ p ta #[.int .i64 0, .string ⟨#[]⟩, .string ⟨#[]⟩, .int .i64 0, .int .i64 0, .string ⟨#[]⟩, .bool false, .int .i64 0, .int .i64 0, .slice none 0 0, .slice none 0 0, .slice none 0 0, .string ⟨#[]⟩] := g11.set 12 (.string ⟨#[]⟩)
  exact g12
theorem ta_misfit (w : World) : (Instr.typeAssert (.iface 85 (.agg #[])) 20 85 true).run Try.prog w = .ok (.tuple #[.agg #[], .bool true]) w := by kernel_rfl
set_option maxRecDepth 100000 in
theorem catch_idle (p q : Addr) (w : World) :
    CallsD Try.prog 80 #[.pointer (some p), .pointer (some q)] .returning w fun e u' w' => e = .returned (.tuple #[]) ∧ u' = .returning ∧ w' = w := by
  refine callsD_of_wpS Try.func80 rfl fun c₀ cs hu => ?_
  apply wpS_seq
  apply wpS_region
  simp [wpOpsS, go_sem, recoverD, hu, Try.ntmps80, Exit.thenS]
  change Code.wpS _ _ _ { tmps := #[.pointer (some p), .pointer (some q), undef, undef, undef, .nilIface, undef, undef, undef, undef, undef, undef], defers := [] } _ _
  refine wpS_of_wp ?_
  go_wp2_with fail
  cases c₀
  simp_all [bodyPostS, results, Try.results80]
set_option maxHeartbeats 3200000 in
set_option maxRecDepth 100000 in
theorem catch_misfit (p q : Nat) (a0 a1 a2 a3 a4 a5 a6 a7 a8 a9 a10 a11 a12 : Value) (b : Value) (ta tb : TypeId) (older : List PanicEntry) (w : World) (hp : Blk w p ta #[a0, a1, a2, a3, a4, a5, a6, a7, a8, a9, a10, a11, a12]) (hq : Blk w q tb #[b]) (hne : p ≠ q) :
    CallsD Try.prog 80 #[.pointer (some ⟨p, 0, none⟩), .pointer (some ⟨q, 0, none⟩)] (.panicking ({ v := .iface 85 (.agg #[]), recovered := false } :: older)) w fun e u' w' =>
      e = .returned (.tuple #[]) ∧ u' = .panicking ({ v := .iface 85 (.agg #[]), recovered := true } :: older) ∧ Out [p, q] w w' ∧ Blk w' p ta #[.int .i64 0, .string ⟨#[]⟩, .string ⟨#[]⟩, .int .i64 0, .int .i64 0, .string ⟨#[]⟩, .bool false, .int .i64 0, .int .i64 0, .slice none 0 0, .slice none 0 0, .slice none 0 0, .string ⟨#[]⟩] ∧ Blk w' q tb #[.bool false] := by
  refine callsD_of_wpS Try.func80 rfl fun c₀ cs hu => ?_
  apply wpS_seq
  apply wpS_region
  simp [wpOpsS, go_sem, recoverD, hu, Try.ntmps80, Exit.thenS]
  change Code.wpS _ _ _ { tmps := #[.pointer (some ⟨p, 0, none⟩), .pointer (some ⟨q, 0, none⟩), undef, undef, undef, .iface 85 (.agg #[]), undef, undef, undef, undef, undef, undef], defers := [] } _ _
  refine wpS_of_wp ?_
  have HPQ : Hid (Blk w p ta #[a0, a1, a2, a3, a4, a5, a6, a7, a8, a9, a10, a11, a12] ∧ Blk w q tb #[b] ∧ p ≠ q) := ⟨hp, hq, hne⟩
  clear hp hq hne
  have d0 : ∀ o, (w.alloc o).cell? ⟨p, 0, none⟩ = some a0 := fun o => (HPQ.out.1.alloc o).cell 0
  have d1 : ∀ o, (w.alloc o).cell? ⟨p, 1, none⟩ = some a1 := fun o => (HPQ.out.1.alloc o).cell 1
  have d2 : ∀ o, (w.alloc o).cell? ⟨p, 2, none⟩ = some a2 := fun o => (HPQ.out.1.alloc o).cell 2
  have d3 : ∀ o, (w.alloc o).cell? ⟨p, 3, none⟩ = some a3 := fun o => (HPQ.out.1.alloc o).cell 3
  have d4 : ∀ o, (w.alloc o).cell? ⟨p, 4, none⟩ = some a4 := fun o => (HPQ.out.1.alloc o).cell 4
  have d5 : ∀ o, (w.alloc o).cell? ⟨p, 5, none⟩ = some a5 := fun o => (HPQ.out.1.alloc o).cell 5
  have d6 : ∀ o, (w.alloc o).cell? ⟨p, 6, none⟩ = some a6 := fun o => (HPQ.out.1.alloc o).cell 6
  have d7 : ∀ o, (w.alloc o).cell? ⟨p, 7, none⟩ = some a7 := fun o => (HPQ.out.1.alloc o).cell 7
  have d8 : ∀ o, (w.alloc o).cell? ⟨p, 8, none⟩ = some a8 := fun o => (HPQ.out.1.alloc o).cell 8
  have d9 : ∀ o, (w.alloc o).cell? ⟨p, 9, none⟩ = some a9 := fun o => (HPQ.out.1.alloc o).cell 9
  have d10 : ∀ o, (w.alloc o).cell? ⟨p, 10, none⟩ = some a10 := fun o => (HPQ.out.1.alloc o).cell 10
  have d11 : ∀ o, (w.alloc o).cell? ⟨p, 11, none⟩ = some a11 := fun o => (HPQ.out.1.alloc o).cell 11
  have d12 : ∀ o, (w.alloc o).cell? ⟨p, 12, none⟩ = some a12 := fun o => (HPQ.out.1.alloc o).cell 12
  have dz : ∀ o j, (w.alloc o).frozen? ⟨p, j, none⟩ = false := fun o j => (HPQ.out.1.alloc o).free j
  have e0 : ∀ o, (w.alloc o).cell? ⟨q, 0, none⟩ = some b := fun o => (HPQ.out.2.1.alloc o).cell 0
  have ez : ∀ o, (w.alloc o).frozen? ⟨q, 0, none⟩ = false := fun o => (HPQ.out.2.1.alloc o).free 0
  have n1 : ¬ p = q := HPQ.out.2.2
  have n2 : ¬ q = p := fun e => HPQ.out.2.2 e.symm
  have TA := ta_misfit
  go_wp2_with fail
  generalize hV : World.setCell _ { block := q, off := 0 } (Value.bool false) = V
  have FIN : Out [p, q] w V ∧ Blk V p ta #[.int .i64 0, .string ⟨#[]⟩, .string ⟨#[]⟩, .int .i64 0, .int .i64 0, .string ⟨#[]⟩, .bool false, .int .i64 0, .int .i64 0, .slice none 0 0, .slice none 0 0, .slice none 0 0, .string ⟨#[]⟩] ∧ Blk V q tb #[.bool false] := by
    rw [← hV]
    refine ⟨?_, ?_, ?_⟩
    · iterate 14 refine Out.setCell ?_ _ _ (by simp)
      exact (Out.refl _ _).alloc _
    · refine Blk.other ?_ _ n1
      exact zero13 (HPQ.out.1.alloc _)
    · refine Blk.set (vs := #[b]) ?_ 0 _
      iterate 13 refine Blk.other ?_ _ n2
      exact HPQ.out.2.1.alloc _
  clear hV
  cases c₀
  simp_all [bodyPostS, results, Try.results80]
end Go.Proofs.Ytgkaagmjipkeaaa

/-
  The laws' szCert: what is left of a bound when a letter is weighed.
-/
namespace Go.Proofs.Ytgkaagmjipkeaaa
open Go.RowKit
set_option linter.unusedVariables false

set_option maxHeartbeats 6400000 in
set_option maxRecDepth 100000 in
theorem szCert_any (c : Ct) (v : Value) (left : Int) (w : World) (hwd : WdC c) (h0 : 0 ≤ left) (hl : left ≤ 1048576) (ha : ArgC w.heap.size w v c) :
    Calls Try.prog 8 #[v, .int .i64 left] w fun e w' => e = .returned (.int .i64 (szC c left)) ∧ Below w.heap.size w w' := by
  obtain ⟨pa, pc, ea, ec, da, dc, rfl, h1, h2, h3⟩ := ha
  obtain ⟨_, _, hs, hpe, hde, hpl, hel, hdl⟩ := hwd
  have s1 : c.issuer.size ≤ 9223372036854775807 := hs _ (by simp)
  have s2 : c.subject.size ≤ 9223372036854775807 := hs _ (by simp)
  have s3 : c.key.size ≤ 9223372036854775807 := hs _ (by simp)
  have s7 : c.sig.size ≤ 9223372036854775807 := hs _ (by simp)
  have HA : Hid (ArgAt w.heap.size w pa c.pol ∧ ArgT w.heap.size w ea c.per ∧ ArgT w.heap.size w da c.den ∧ WdT c.per ∧ WdT c.den) := ⟨h1, h2, h3, hpe, hde⟩
  clear h1 h2 h3 hs hpe hde
  have HW : Hid ((wtC c : Int) = c.issuer.size + c.subject.size + c.key.size + c.pol.length + totT c.per + totT c.den + c.sig.size) := by show (wtC c : Int) = _; unfold wtC; omega
  unfold ctV
  obtain ⟨r1, hr1⟩ : ∃ r : Int, r = left - (c.issuer.size : Int) := ⟨_, rfl⟩
  have wr1 : IntKind.i64.wrap (left - (c.issuer.size : Int)) = r1 := by rw [IntKind.wrap_i64]; omega
  by_cases g1 : r1 < 0
  · have HF : Hid (szC c left = -1) := by show szC c left = _; have hw := HW.out; unfold szC; rw [if_neg (by omega)]
    clear HW hr1
    go_enter Try.func8, Try.ntmps8
    go_wp2_with fail
    go_ret
    exact ⟨by rw [HF.out]; rfl, (Below.refl _ _).alloc (Nat.le_refl _) _⟩
  obtain ⟨r2, hr2⟩ : ∃ r : Int, r = r1 - (c.subject.size : Int) := ⟨_, rfl⟩
  have wr2 : IntKind.i64.wrap (r1 - (c.subject.size : Int)) = r2 := by rw [IntKind.wrap_i64]; omega
  by_cases g2 : r2 < 0
  · have HF : Hid (szC c left = -1) := by show szC c left = _; have hw := HW.out; unfold szC; rw [if_neg (by omega)]
    clear HW hr1 hr2
    go_enter Try.func8, Try.ntmps8
    go_wp2_with fail
    go_ret
    exact ⟨by rw [HF.out]; rfl, (Below.refl _ _).alloc (Nat.le_refl _) _⟩
  obtain ⟨r3, hr3⟩ : ∃ r : Int, r = r2 - (c.key.size : Int) := ⟨_, rfl⟩
  have wr3 : IntKind.i64.wrap (r2 - (c.key.size : Int)) = r3 := by rw [IntKind.wrap_i64]; omega
  by_cases g3 : r3 < 0
  · have HF : Hid (szC c left = -1) := by show szC c left = _; have hw := HW.out; unfold szC; rw [if_neg (by omega)]
    clear HW hr1 hr2 hr3
    go_enter Try.func8, Try.ntmps8
    go_wp2_with fail
    go_ret
    exact ⟨by rw [HF.out]; rfl, (Below.refl _ _).alloc (Nat.le_refl _) _⟩
  obtain ⟨r4, hr4⟩ : ∃ r : Int, r = if (c.pol.length : Int) ≤ r3 then r3 - (c.pol.length : Int) else -1 := ⟨_, rfl⟩
  have Z4 : Hid (∀ W, Below w.heap.size w W → Calls Try.prog 26 #[.slice pa c.pol.length pc, .int .i64 r3] W fun e w' => e = .returned (.int .i64 r4) ∧ Below W.heap.size W w') := fun W hb => by rw [hr4]; exact szIntS_any pa c.pol.length pc r3 W hpl (by omega) (by omega)
  by_cases g4 : r4 < 0
  · have HF : Hid (szC c left = -1) := by show szC c left = _; have hw := HW.out; unfold szC; rw [if_neg (by split at hr4 <;> omega)]
    clear HW hr1 hr2 hr3 hr4
    go_enter Try.func8, Try.ntmps8
    go_wp2_with fail
    obtain ⟨V, hV⟩ : ∃ V, V = w.alloc (Obj.cells #[.int .i64 c.serial, .string c.issuer, .string c.subject, .int .i64 c.frm, .int .i64 c.upto, .string c.key, .bool c.ca, .int .i64 c.pathLen, .int .i64 c.usage, .slice pa c.pol.length pc, .slice ea c.per.length ec, .slice da c.den.length dc, .string c.sig] 25) := ⟨_, rfl⟩
    rw [← hV]
    have G : Hid (Blk V w.heap.size 25 #[.int .i64 c.serial, .string c.issuer, .string c.subject, .int .i64 c.frm, .int .i64 c.upto, .string c.key, .bool c.ca, .int .i64 c.pathLen, .int .i64 c.usage, .slice pa c.pol.length pc, .slice ea c.per.length ec, .slice da c.den.length dc, .string c.sig] ∧ Below w.heap.size w V) := by rw [hV]; exact ⟨Blk.new w _ _, (Below.refl _ _).alloc (Nat.le_refl _) _⟩
    have hsz : w.heap.size < V.heap.size := G.out.1.lt
    clear hV
    refine (Z4.out V G.out.2).mono ?_
    rintro e V4 ⟨rfl, hb⟩
    have G4 : Hid (Blk V4 w.heap.size 25 #[.int .i64 c.serial, .string c.issuer, .string c.subject, .int .i64 c.frm, .int .i64 c.upto, .string c.key, .bool c.ca, .int .i64 c.pathLen, .int .i64 c.usage, .slice pa c.pol.length pc, .slice ea c.per.length ec, .slice da c.den.length dc, .string c.sig] ∧ Below w.heap.size w V4) := ⟨G.out.1.below hb hsz, G.out.2.trans (hb.mono G.out.2.size)⟩
    have hsz4 : w.heap.size < V4.heap.size := Nat.lt_of_lt_of_le hsz hb.size
    clear hb G hsz
    go_wp2_with fail
    go_ret
    exact ⟨by rw [HF.out]; rfl, G4.out.2⟩
  have hq4 : r4 = r3 - (c.pol.length : Int) := by split at hr4 <;> omega
  clear hr4
  have hr4 := hq4
  clear hq4
  obtain ⟨r5, hr5⟩ : ∃ r : Int, r = szT c.per r4 := ⟨_, rfl⟩
  have Z5 : Hid (∀ W, Below w.heap.size w W → Calls Try.prog 27 #[.slice ea c.per.length ec, .int .i64 r4] W fun e w' => e = .returned (.int .i64 r5) ∧ Below W.heap.size W w') := fun W hb => by rw [hr5]; exact szStringS_any ea c.per c.per.length ec w.heap.size r4 W rfl hel HA.out.2.2.2.1 (by omega) (by omega) hb.size (HA.out.2.1.below hb)
  unfold szT at hr5
  by_cases g5 : r5 < 0
  · have HF : Hid (szC c left = -1) := by show szC c left = _; have hw := HW.out; unfold szC; rw [if_neg (by split at hr5 <;> omega)]
    clear HW hr1 hr2 hr3 hr4 hr5
    go_enter Try.func8, Try.ntmps8
    go_wp2_with fail
    obtain ⟨V, hV⟩ : ∃ V, V = w.alloc (Obj.cells #[.int .i64 c.serial, .string c.issuer, .string c.subject, .int .i64 c.frm, .int .i64 c.upto, .string c.key, .bool c.ca, .int .i64 c.pathLen, .int .i64 c.usage, .slice pa c.pol.length pc, .slice ea c.per.length ec, .slice da c.den.length dc, .string c.sig] 25) := ⟨_, rfl⟩
    rw [← hV]
    have G : Hid (Blk V w.heap.size 25 #[.int .i64 c.serial, .string c.issuer, .string c.subject, .int .i64 c.frm, .int .i64 c.upto, .string c.key, .bool c.ca, .int .i64 c.pathLen, .int .i64 c.usage, .slice pa c.pol.length pc, .slice ea c.per.length ec, .slice da c.den.length dc, .string c.sig] ∧ Below w.heap.size w V) := by rw [hV]; exact ⟨Blk.new w _ _, (Below.refl _ _).alloc (Nat.le_refl _) _⟩
    have hsz : w.heap.size < V.heap.size := G.out.1.lt
    clear hV
    refine (Z4.out V G.out.2).mono ?_
    rintro e V4 ⟨rfl, hb⟩
    have G4 : Hid (Blk V4 w.heap.size 25 #[.int .i64 c.serial, .string c.issuer, .string c.subject, .int .i64 c.frm, .int .i64 c.upto, .string c.key, .bool c.ca, .int .i64 c.pathLen, .int .i64 c.usage, .slice pa c.pol.length pc, .slice ea c.per.length ec, .slice da c.den.length dc, .string c.sig] ∧ Below w.heap.size w V4) := ⟨G.out.1.below hb hsz, G.out.2.trans (hb.mono G.out.2.size)⟩
    have hsz4 : w.heap.size < V4.heap.size := Nat.lt_of_lt_of_le hsz hb.size
    clear hb G hsz
    have ca : V4.cell? ⟨w.heap.size, 10, none⟩ = some (.slice ea c.per.length ec) := G4.out.1.cell 10
    go_wp2_with fail
    clear ca
    refine (Z5.out V4 G4.out.2).mono ?_
    rintro e V5 ⟨rfl, hb⟩
    have G5 : Hid (Blk V5 w.heap.size 25 #[.int .i64 c.serial, .string c.issuer, .string c.subject, .int .i64 c.frm, .int .i64 c.upto, .string c.key, .bool c.ca, .int .i64 c.pathLen, .int .i64 c.usage, .slice pa c.pol.length pc, .slice ea c.per.length ec, .slice da c.den.length dc, .string c.sig] ∧ Below w.heap.size w V5) := ⟨G4.out.1.below hb hsz4, G4.out.2.trans (hb.mono G4.out.2.size)⟩
    have hsz5 : w.heap.size < V5.heap.size := Nat.lt_of_lt_of_le hsz4 hb.size
    clear hb G4 hsz4
    go_wp2_with fail
    go_ret
    exact ⟨by rw [HF.out]; rfl, G5.out.2⟩
  have hq5 : r5 = r4 - (totT c.per : Int) := by split at hr5 <;> omega
  clear hr5
  have hr5 := hq5
  clear hq5
  obtain ⟨r6, hr6⟩ : ∃ r : Int, r = szT c.den r5 := ⟨_, rfl⟩
  have Z6 : Hid (∀ W, Below w.heap.size w W → Calls Try.prog 27 #[.slice da c.den.length dc, .int .i64 r5] W fun e w' => e = .returned (.int .i64 r6) ∧ Below W.heap.size W w') := fun W hb => by rw [hr6]; exact szStringS_any da c.den c.den.length dc w.heap.size r5 W rfl hdl HA.out.2.2.2.2 (by omega) (by omega) hb.size (HA.out.2.2.1.below hb)
  unfold szT at hr6
  by_cases g6 : r6 < 0
  · have HF : Hid (szC c left = -1) := by show szC c left = _; have hw := HW.out; unfold szC; rw [if_neg (by split at hr6 <;> omega)]
    clear HW hr1 hr2 hr3 hr4 hr5 hr6
    go_enter Try.func8, Try.ntmps8
    go_wp2_with fail
    obtain ⟨V, hV⟩ : ∃ V, V = w.alloc (Obj.cells #[.int .i64 c.serial, .string c.issuer, .string c.subject, .int .i64 c.frm, .int .i64 c.upto, .string c.key, .bool c.ca, .int .i64 c.pathLen, .int .i64 c.usage, .slice pa c.pol.length pc, .slice ea c.per.length ec, .slice da c.den.length dc, .string c.sig] 25) := ⟨_, rfl⟩
    rw [← hV]
    have G : Hid (Blk V w.heap.size 25 #[.int .i64 c.serial, .string c.issuer, .string c.subject, .int .i64 c.frm, .int .i64 c.upto, .string c.key, .bool c.ca, .int .i64 c.pathLen, .int .i64 c.usage, .slice pa c.pol.length pc, .slice ea c.per.length ec, .slice da c.den.length dc, .string c.sig] ∧ Below w.heap.size w V) := by rw [hV]; exact ⟨Blk.new w _ _, (Below.refl _ _).alloc (Nat.le_refl _) _⟩
    have hsz : w.heap.size < V.heap.size := G.out.1.lt
    clear hV
    refine (Z4.out V G.out.2).mono ?_
    rintro e V4 ⟨rfl, hb⟩
    have G4 : Hid (Blk V4 w.heap.size 25 #[.int .i64 c.serial, .string c.issuer, .string c.subject, .int .i64 c.frm, .int .i64 c.upto, .string c.key, .bool c.ca, .int .i64 c.pathLen, .int .i64 c.usage, .slice pa c.pol.length pc, .slice ea c.per.length ec, .slice da c.den.length dc, .string c.sig] ∧ Below w.heap.size w V4) := ⟨G.out.1.below hb hsz, G.out.2.trans (hb.mono G.out.2.size)⟩
    have hsz4 : w.heap.size < V4.heap.size := Nat.lt_of_lt_of_le hsz hb.size
    clear hb G hsz
    have ca : V4.cell? ⟨w.heap.size, 10, none⟩ = some (.slice ea c.per.length ec) := G4.out.1.cell 10
    go_wp2_with fail
    clear ca
    refine (Z5.out V4 G4.out.2).mono ?_
    rintro e V5 ⟨rfl, hb⟩
    have G5 : Hid (Blk V5 w.heap.size 25 #[.int .i64 c.serial, .string c.issuer, .string c.subject, .int .i64 c.frm, .int .i64 c.upto, .string c.key, .bool c.ca, .int .i64 c.pathLen, .int .i64 c.usage, .slice pa c.pol.length pc, .slice ea c.per.length ec, .slice da c.den.length dc, .string c.sig] ∧ Below w.heap.size w V5) := ⟨G4.out.1.below hb hsz4, G4.out.2.trans (hb.mono G4.out.2.size)⟩
    have hsz5 : w.heap.size < V5.heap.size := Nat.lt_of_lt_of_le hsz4 hb.size
    clear hb G4 hsz4
    have ca : V5.cell? ⟨w.heap.size, 11, none⟩ = some (.slice da c.den.length dc) := G5.out.1.cell 11
    go_wp2_with fail
    clear ca
    refine (Z6.out V5 G5.out.2).mono ?_
    rintro e V6 ⟨rfl, hb⟩
    have G6 : Hid (Blk V6 w.heap.size 25 #[.int .i64 c.serial, .string c.issuer, .string c.subject, .int .i64 c.frm, .int .i64 c.upto, .string c.key, .bool c.ca, .int .i64 c.pathLen, .int .i64 c.usage, .slice pa c.pol.length pc, .slice ea c.per.length ec, .slice da c.den.length dc, .string c.sig] ∧ Below w.heap.size w V6) := ⟨G5.out.1.below hb hsz5, G5.out.2.trans (hb.mono G5.out.2.size)⟩
    have hsz6 : w.heap.size < V6.heap.size := Nat.lt_of_lt_of_le hsz5 hb.size
    clear hb G5 hsz5
    go_wp2_with fail
    go_ret
    exact ⟨by rw [HF.out]; rfl, G6.out.2⟩
  have hq6 : r6 = r5 - (totT c.den : Int) := by split at hr6 <;> omega
  clear hr6
  have hr6 := hq6
  clear hq6
  obtain ⟨r7, hr7⟩ : ∃ r : Int, r = r6 - (c.sig.size : Int) := ⟨_, rfl⟩
  have wr7 : IntKind.i64.wrap (r6 - (c.sig.size : Int)) = r7 := by rw [IntKind.wrap_i64]; omega
  by_cases g7 : r7 < 0
  · have HF : Hid (szC c left = -1) := by show szC c left = _; have hw := HW.out; unfold szC; rw [if_neg (by omega)]
    clear HW hr1 hr2 hr3 hr4 hr5 hr6 hr7
    go_enter Try.func8, Try.ntmps8
    go_wp2_with fail
    obtain ⟨V, hV⟩ : ∃ V, V = w.alloc (Obj.cells #[.int .i64 c.serial, .string c.issuer, .string c.subject, .int .i64 c.frm, .int .i64 c.upto, .string c.key, .bool c.ca, .int .i64 c.pathLen, .int .i64 c.usage, .slice pa c.pol.length pc, .slice ea c.per.length ec, .slice da c.den.length dc, .string c.sig] 25) := ⟨_, rfl⟩
    rw [← hV]
    have G : Hid (Blk V w.heap.size 25 #[.int .i64 c.serial, .string c.issuer, .string c.subject, .int .i64 c.frm, .int .i64 c.upto, .string c.key, .bool c.ca, .int .i64 c.pathLen, .int .i64 c.usage, .slice pa c.pol.length pc, .slice ea c.per.length ec, .slice da c.den.length dc, .string c.sig] ∧ Below w.heap.size w V) := by rw [hV]; exact ⟨Blk.new w _ _, (Below.refl _ _).alloc (Nat.le_refl _) _⟩
    have hsz : w.heap.size < V.heap.size := G.out.1.lt
    clear hV
    refine (Z4.out V G.out.2).mono ?_
    rintro e V4 ⟨rfl, hb⟩
    have G4 : Hid (Blk V4 w.heap.size 25 #[.int .i64 c.serial, .string c.issuer, .string c.subject, .int .i64 c.frm, .int .i64 c.upto, .string c.key, .bool c.ca, .int .i64 c.pathLen, .int .i64 c.usage, .slice pa c.pol.length pc, .slice ea c.per.length ec, .slice da c.den.length dc, .string c.sig] ∧ Below w.heap.size w V4) := ⟨G.out.1.below hb hsz, G.out.2.trans (hb.mono G.out.2.size)⟩
    have hsz4 : w.heap.size < V4.heap.size := Nat.lt_of_lt_of_le hsz hb.size
    clear hb G hsz
    have ca : V4.cell? ⟨w.heap.size, 10, none⟩ = some (.slice ea c.per.length ec) := G4.out.1.cell 10
    go_wp2_with fail
    clear ca
    refine (Z5.out V4 G4.out.2).mono ?_
    rintro e V5 ⟨rfl, hb⟩
    have G5 : Hid (Blk V5 w.heap.size 25 #[.int .i64 c.serial, .string c.issuer, .string c.subject, .int .i64 c.frm, .int .i64 c.upto, .string c.key, .bool c.ca, .int .i64 c.pathLen, .int .i64 c.usage, .slice pa c.pol.length pc, .slice ea c.per.length ec, .slice da c.den.length dc, .string c.sig] ∧ Below w.heap.size w V5) := ⟨G4.out.1.below hb hsz4, G4.out.2.trans (hb.mono G4.out.2.size)⟩
    have hsz5 : w.heap.size < V5.heap.size := Nat.lt_of_lt_of_le hsz4 hb.size
    clear hb G4 hsz4
    have ca : V5.cell? ⟨w.heap.size, 11, none⟩ = some (.slice da c.den.length dc) := G5.out.1.cell 11
    go_wp2_with fail
    clear ca
    refine (Z6.out V5 G5.out.2).mono ?_
    rintro e V6 ⟨rfl, hb⟩
    have G6 : Hid (Blk V6 w.heap.size 25 #[.int .i64 c.serial, .string c.issuer, .string c.subject, .int .i64 c.frm, .int .i64 c.upto, .string c.key, .bool c.ca, .int .i64 c.pathLen, .int .i64 c.usage, .slice pa c.pol.length pc, .slice ea c.per.length ec, .slice da c.den.length dc, .string c.sig] ∧ Below w.heap.size w V6) := ⟨G5.out.1.below hb hsz5, G5.out.2.trans (hb.mono G5.out.2.size)⟩
    have hsz6 : w.heap.size < V6.heap.size := Nat.lt_of_lt_of_le hsz5 hb.size
    clear hb G5 hsz5
    have ca : V6.cell? ⟨w.heap.size, 12, none⟩ = some (.string c.sig) := G6.out.1.cell 12
    go_wp2_with fail
    skip
    go_ret
    exact ⟨by rw [HF.out]; rfl, G6.out.2⟩
  have HF : Hid (szC c left = r7) := by show szC c left = _; have hw := HW.out; unfold szC; rw [if_pos (by omega)]; omega
  clear HW hr1 hr2 hr3 hr4 hr5 hr6 hr7
  go_enter Try.func8, Try.ntmps8
  go_wp2_with fail
  obtain ⟨V, hV⟩ : ∃ V, V = w.alloc (Obj.cells #[.int .i64 c.serial, .string c.issuer, .string c.subject, .int .i64 c.frm, .int .i64 c.upto, .string c.key, .bool c.ca, .int .i64 c.pathLen, .int .i64 c.usage, .slice pa c.pol.length pc, .slice ea c.per.length ec, .slice da c.den.length dc, .string c.sig] 25) := ⟨_, rfl⟩
  rw [← hV]
  have G : Hid (Blk V w.heap.size 25 #[.int .i64 c.serial, .string c.issuer, .string c.subject, .int .i64 c.frm, .int .i64 c.upto, .string c.key, .bool c.ca, .int .i64 c.pathLen, .int .i64 c.usage, .slice pa c.pol.length pc, .slice ea c.per.length ec, .slice da c.den.length dc, .string c.sig] ∧ Below w.heap.size w V) := by rw [hV]; exact ⟨Blk.new w _ _, (Below.refl _ _).alloc (Nat.le_refl _) _⟩
  have hsz : w.heap.size < V.heap.size := G.out.1.lt
  clear hV
  refine (Z4.out V G.out.2).mono ?_
  rintro e V4 ⟨rfl, hb⟩
  have G4 : Hid (Blk V4 w.heap.size 25 #[.int .i64 c.serial, .string c.issuer, .string c.subject, .int .i64 c.frm, .int .i64 c.upto, .string c.key, .bool c.ca, .int .i64 c.pathLen, .int .i64 c.usage, .slice pa c.pol.length pc, .slice ea c.per.length ec, .slice da c.den.length dc, .string c.sig] ∧ Below w.heap.size w V4) := ⟨G.out.1.below hb hsz, G.out.2.trans (hb.mono G.out.2.size)⟩
  have hsz4 : w.heap.size < V4.heap.size := Nat.lt_of_lt_of_le hsz hb.size
  clear hb G hsz
  have ca : V4.cell? ⟨w.heap.size, 10, none⟩ = some (.slice ea c.per.length ec) := G4.out.1.cell 10
  go_wp2_with fail
  clear ca
  refine (Z5.out V4 G4.out.2).mono ?_
  rintro e V5 ⟨rfl, hb⟩
  have G5 : Hid (Blk V5 w.heap.size 25 #[.int .i64 c.serial, .string c.issuer, .string c.subject, .int .i64 c.frm, .int .i64 c.upto, .string c.key, .bool c.ca, .int .i64 c.pathLen, .int .i64 c.usage, .slice pa c.pol.length pc, .slice ea c.per.length ec, .slice da c.den.length dc, .string c.sig] ∧ Below w.heap.size w V5) := ⟨G4.out.1.below hb hsz4, G4.out.2.trans (hb.mono G4.out.2.size)⟩
  have hsz5 : w.heap.size < V5.heap.size := Nat.lt_of_lt_of_le hsz4 hb.size
  clear hb G4 hsz4
  have ca : V5.cell? ⟨w.heap.size, 11, none⟩ = some (.slice da c.den.length dc) := G5.out.1.cell 11
  go_wp2_with fail
  clear ca
  refine (Z6.out V5 G5.out.2).mono ?_
  rintro e V6 ⟨rfl, hb⟩
  have G6 : Hid (Blk V6 w.heap.size 25 #[.int .i64 c.serial, .string c.issuer, .string c.subject, .int .i64 c.frm, .int .i64 c.upto, .string c.key, .bool c.ca, .int .i64 c.pathLen, .int .i64 c.usage, .slice pa c.pol.length pc, .slice ea c.per.length ec, .slice da c.den.length dc, .string c.sig] ∧ Below w.heap.size w V6) := ⟨G5.out.1.below hb hsz5, G5.out.2.trans (hb.mono G5.out.2.size)⟩
  have hsz6 : w.heap.size < V6.heap.size := Nat.lt_of_lt_of_le hsz5 hb.size
  clear hb G5 hsz5
  have ca : V6.cell? ⟨w.heap.size, 12, none⟩ = some (.string c.sig) := G6.out.1.cell 12
  go_wp2_with fail
  skip
  go_ret
  exact ⟨by rw [HF.out]; rfl, G6.out.2⟩
end Go.Proofs.Ytgkaagmjipkeaaa
