/-
  Texts of the proof, one behind the other: CrJ, CloI.
-/
import Derived.Test.YtajbalokcfghbaaShelf
import Derived.Laws.IdiomStrings
import Derived.Test.YtajbalokcfghbaaC11
import Derived.Test.YtajbalokcfghbaaC16

/-
  The laws' markCert, heldCert.
-/
namespace Go.Proofs.Ytajbalokcfghbaa
open Go.RowKit
set_option linter.unusedVariables false

/-- A letter whose lists are marked from k on. -/
def mkC (k : Nat) (c : Ct) : Ct := { c with pol := marksI k c.pol.length, per := marksT (k + c.pol.length) c.per.length, den := marksT (k + c.pol.length + c.per.length) c.den.length }
/-- The blocks that a letter's lists take. -/
def fpC (v : Value) : List Nat := match v with
  | .agg a => (a.getD 9 (.slice none 0 0)).ownBlock.toList ++ ((a.getD 10 (.slice none 0 0)).ownBlock.toList ++ (a.getD 11 (.slice none 0 0)).ownBlock.toList)
  | _ => []
theorem fpC_mem {c : Ct} {p e d : Value} {g : Nat} : g ∈ fpC (ctV c p e d) ↔ p.ownBlock = some g ∨ e.ownBlock = some g ∨ d.ownBlock = some g := by
  show g ∈ p.ownBlock.toList ++ (e.ownBlock.toList ++ d.ownBlock.toList) ↔ _
  simp [List.mem_append, Option.mem_toList]
theorem fpC_lt {w : World} {base : Nat} {v : Value} {c : Ct} (h : OwnC w base v c) : ∀ b ∈ fpC v, base ≤ b ∧ b < w.heap.size := by
  obtain ⟨p, e, d, rfl, h1, h2, h3, _⟩ := h
  intro b hb
  rcases fpC_mem.1 hb with h | h | h
  · exact World.ownsRow.lt h1 b h
  · exact World.ownsRow.lt h2 b h
  · exact World.ownsRow.lt h3 b h
theorem Out.grown {fp : List Nat} {a b c : World} {row : Option Nat} (h : Out fp a b) (hg : b.grownBy c row) (hr : ∀ q, row = some q → q ∈ fp) : Out fp a c :=
  h.trans ⟨hg.os, hg.tape, hg.output, hg.size, fun k hk hn => hg.block k hk fun e => hn (hr k e.symm)⟩
theorem Out.row {fp : List Nat} {a b : World} {v : Value} (h : Out fp a b) (hv : ∀ g, v.ownBlock = some g → g ∉ fp) : ∀ {base : Nat} {e : TypeId} {size n : Nat} {xs : List Value}, a.ownsRow base e size v n xs → b.ownsRow base e size v n xs := by
  intro base e size n xs ho
  refine ⟨ho.1, ?_⟩
  rcases ho.2 with hn | ⟨g, cap, cur, rfl, hb, hgg, rest⟩
  · exact .inl hn
  · refine .inr ⟨g, cap, cur, rfl, hb, ?_, rest⟩
    rw [h.2.2.2.2 g (Array.getElem?_eq_some_iff.1 hgg).1 (hv g rfl)]
    exact hgg
theorem OwnC.out {w w' : World} {base : Nat} {v : Value} {c : Ct} {fp : List Nat} (h : OwnC w base v c) (ho : Out fp w w') (hn : ∀ b ∈ fpC v, b ∉ fp) : OwnC w' base v c := by
  obtain ⟨p, e, d, rfl, h1, h2, h3, h4⟩ := h
  exact ⟨p, e, d, rfl, ho.row (fun g hg => hn g (fpC_mem.2 (.inl hg))) h1, ho.row (fun g hg => hn g (fpC_mem.2 (.inr (.inl hg)))) h2, ho.row (fun g hg => hn g (fpC_mem.2 (.inr (.inr hg)))) h3, h4⟩
set_option maxHeartbeats 3200000 in
set_option maxRecDepth 100000 in
theorem markCert_out (c : Ct) (v : Value) (k base : Nat) (w : World) (hl : c.pol.length ≤ 20000000 ∧ c.per.length ≤ 20000000 ∧ c.den.length ≤ 20000000) (hk1 : 1 ≤ k) (hk : k ≤ 100000000) (hbase : base ≤ w.heap.size) (ha : OwnC w base v c) :
    Calls Try.prog 17 #[v, .int .i64 k] w fun e w' => e = .returned (.int .i64 (((k + c.pol.length + c.per.length + c.den.length : Nat)) : Int)) ∧ OwnC w' base v (mkC k c) ∧ Out (fpC v) w w' := by
  obtain ⟨p, e, d, rfl, h1, h2, h3, h4⟩ := ha
  obtain ⟨ap, cp, hp⟩ : ∃ ao cap, p = .slice ao c.pol.length cap := by obtain ⟨ao, cap, h, _⟩ := h1.at; exact ⟨ao, cap, h⟩
  obtain ⟨ae, ce, he⟩ : ∃ ao cap, e = .slice ao c.per.length cap := by obtain ⟨ao, cap, h, _⟩ := h2.at; exact ⟨ao, cap, h⟩
  obtain ⟨ad, cd, hd⟩ : ∃ ao cap, d = .slice ao c.den.length cap := by obtain ⟨ao, cap, h, _⟩ := h3.at; exact ⟨ao, cap, h⟩
  obtain ⟨lp, hlp⟩ : ∃ l, c.pol.length = l := ⟨_, rfl⟩
  obtain ⟨le, hle⟩ : ∃ l, c.per.length = l := ⟨_, rfl⟩
  obtain ⟨ld, hld⟩ : ∃ l, c.den.length = l := ⟨_, rfl⟩
  rw [hlp] at hp
  rw [hle] at he
  rw [hld] at hd
  subst hp he hd
  have B1 := fun g hg => (World.ownsRow.lt h1 g hg).2
  have B2 := fun g hg => (World.ownsRow.lt h2 g hg).2
  have B3 := fun g hg => (World.ownsRow.lt h3 g hg).2
  have HA : Hid (OwnI w base (.slice ap lp cp) c.pol ∧ OwnT w base (.slice ae le ce) c.per ∧ OwnT w base (.slice ad ld cd) c.den ∧ c.pol.length = lp ∧ c.per.length = le ∧ c.den.length = ld) := ⟨h1, h2, h3, hlp, hle, hld⟩
  have HP := h4
  have HB : Hid ((∀ g, (Value.slice ap lp cp).ownBlock = some g → g < w.heap.size) ∧ (∀ g, (Value.slice ae le ce).ownBlock = some g → g < w.heap.size) ∧ (∀ g, (Value.slice ad ld cd).ownBlock = some g → g < w.heap.size)) := ⟨B1, B2, B3⟩
  have HPA : Hid ((Ap (Value.slice ap lp cp) (Value.slice ae le ce) ∧ Ap (Value.slice ae le ce) (Value.slice ap lp cp)) ∧ (Ap (Value.slice ap lp cp) (Value.slice ad ld cd) ∧ Ap (Value.slice ad ld cd) (Value.slice ap lp cp)) ∧ (Ap (Value.slice ae le ce) (Value.slice ad ld cd) ∧ Ap (Value.slice ad ld cd) (Value.slice ae le ce))) := h4
  rw [hlp, hle, hld] at hl
  have hm : mkC k c = { c with pol := marksI k lp, per := marksT (k + lp) le, den := marksT (k + lp + le) ld } := by unfold mkC; rw [hlp, hle, hld]
  rw [hm, hlp, hle, hld]
  clear h1 h2 h3 h4 HP B1 B2 B3 hm hlp hle hld
  unfold ctV
  go_enter Try.func17, Try.ntmps17
  go_wp2_with fail
  obtain ⟨V, hV⟩ : ∃ V, V = w.alloc (Obj.cells #[.int .i64 c.serial, .string c.issuer, .string c.subject, .int .i64 c.frm, .int .i64 c.upto, .string c.key, .bool c.ca, .int .i64 c.pathLen, .int .i64 c.usage, .slice ap lp cp, .slice ae le ce, .slice ad ld cd, .string c.sig] 29) := ⟨_, rfl⟩
  rw [← hV]
  have G : Hid (Blk V w.heap.size 29 #[.int .i64 c.serial, .string c.issuer, .string c.subject, .int .i64 c.frm, .int .i64 c.upto, .string c.key, .bool c.ca, .int .i64 c.pathLen, .int .i64 c.usage, .slice ap lp cp, .slice ae le ce, .slice ad ld cd, .string c.sig] ∧ Out (fpC (ctV c (.slice ap lp cp) (.slice ae le ce) (.slice ad ld cd))) w V ∧ w.heap.size < V.heap.size ∧ OwnI V base (.slice ap lp cp) c.pol ∧ OwnT V base (.slice ae le ce) c.per ∧ OwnT V base (.slice ad ld cd) c.den) := by
    have hb : Below w.heap.size w V := by rw [hV]; exact (Below.refl _ _).alloc (Nat.le_refl _) _
    have hq : Blk V w.heap.size 29 #[.int .i64 c.serial, .string c.issuer, .string c.subject, .int .i64 c.frm, .int .i64 c.upto, .string c.key, .bool c.ca, .int .i64 c.pathLen, .int .i64 c.usage, .slice ap lp cp, .slice ae le ce, .slice ad ld cd, .string c.sig] := by rw [hV]; exact Blk.new w _ _
    exact ⟨hq, Out.of_below hb, hq.lt, HA.out.1.stays hb, HA.out.2.1.stays hb, HA.out.2.2.1.stays hb⟩
  clear hV
  have E0 := mark_any (.slice ap lp cp) c.pol (k) base V (by rw [HA.out.2.2.2.1]; omega) (by omega) G.out.2.2.2.1
  rw [HA.out.2.2.2.1] at E0
  refine E0.mono ?_
  rintro r u0 ⟨rfl, ho, hg⟩
  have G0 : Hid (Blk u0 w.heap.size 29 #[.int .i64 c.serial, .string c.issuer, .string c.subject, .int .i64 c.frm, .int .i64 c.upto, .string c.key, .bool c.ca, .int .i64 c.pathLen, .int .i64 c.usage, .slice ap lp cp, .slice ae le ce, .slice ad ld cd, .string c.sig] ∧ Out (fpC (ctV c (.slice ap lp cp) (.slice ae le ce) (.slice ad ld cd))) w u0 ∧ w.heap.size < u0.heap.size ∧ OwnI u0 base (.slice ap lp cp) (marksI (k) lp) ∧ OwnT u0 base (.slice ae le ce) c.per ∧ OwnT u0 base (.slice ad ld cd) c.den) := by
    refine ⟨(hg.block w.heap.size G.out.2.2.1 (fun h => by have := HB.out.1 _ h.symm; omega)).trans G.out.1, G.out.2.1.grown hg (fun q hq => fpC_mem.2 (.inl hq)), Nat.lt_of_lt_of_le G.out.2.2.1 hg.size, ho, World.ownsRow.kept G.out.2.2.2.2.1 hg HPA.out.1.2, World.ownsRow.kept G.out.2.2.2.2.2 hg HPA.out.2.1.2⟩
  clear ho hg G E0
  have ca : u0.cell? ⟨w.heap.size, 10, none⟩ = some (.slice ae le ce) := G0.out.1.cell 10
  go_wp2_with fail
  rw [← Int.natCast_add k lp]
  clear ca
  have E1 := markT_any (.slice ae le ce) c.per (k + lp) base u0 (by rw [HA.out.2.2.2.2.1]; omega) (by omega) (by omega) G0.out.2.2.2.2.1
  rw [HA.out.2.2.2.2.1] at E1
  refine E1.mono ?_
  rintro r u1 ⟨rfl, ho, hg⟩
  have G1 : Hid (Blk u1 w.heap.size 29 #[.int .i64 c.serial, .string c.issuer, .string c.subject, .int .i64 c.frm, .int .i64 c.upto, .string c.key, .bool c.ca, .int .i64 c.pathLen, .int .i64 c.usage, .slice ap lp cp, .slice ae le ce, .slice ad ld cd, .string c.sig] ∧ Out (fpC (ctV c (.slice ap lp cp) (.slice ae le ce) (.slice ad ld cd))) w u1 ∧ w.heap.size < u1.heap.size ∧ OwnI u1 base (.slice ap lp cp) (marksI (k) lp) ∧ OwnT u1 base (.slice ae le ce) (marksT (k + lp) le) ∧ OwnT u1 base (.slice ad ld cd) c.den) := by
    refine ⟨(hg.block w.heap.size G0.out.2.2.1 (fun h => by have := HB.out.2.1 _ h.symm; omega)).trans G0.out.1, G0.out.2.1.grown hg (fun q hq => fpC_mem.2 (.inr (.inl hq))), Nat.lt_of_lt_of_le G0.out.2.2.1 hg.size, World.ownsRow.kept G0.out.2.2.2.1 hg HPA.out.1.1, ho, World.ownsRow.kept G0.out.2.2.2.2.2 hg HPA.out.2.2.2⟩
  clear ho hg G0 E1
  have ca : u1.cell? ⟨w.heap.size, 11, none⟩ = some (.slice ad ld cd) := G1.out.1.cell 11
  go_wp2_with fail
  rw [← Int.natCast_add k lp, ← Int.natCast_add (k + lp) le]
  clear ca
  have E2 := markT_any (.slice ad ld cd) c.den (k + lp + le) base u1 (by rw [HA.out.2.2.2.2.2]; omega) (by omega) (by omega) G1.out.2.2.2.2.2
  rw [HA.out.2.2.2.2.2] at E2
  refine E2.mono ?_
  rintro r u2 ⟨rfl, ho, hg⟩
  have G2 : Hid (Blk u2 w.heap.size 29 #[.int .i64 c.serial, .string c.issuer, .string c.subject, .int .i64 c.frm, .int .i64 c.upto, .string c.key, .bool c.ca, .int .i64 c.pathLen, .int .i64 c.usage, .slice ap lp cp, .slice ae le ce, .slice ad ld cd, .string c.sig] ∧ Out (fpC (ctV c (.slice ap lp cp) (.slice ae le ce) (.slice ad ld cd))) w u2 ∧ w.heap.size < u2.heap.size ∧ OwnI u2 base (.slice ap lp cp) (marksI (k) lp) ∧ OwnT u2 base (.slice ae le ce) (marksT (k + lp) le) ∧ OwnT u2 base (.slice ad ld cd) (marksT (k + lp + le) ld)) := by
    refine ⟨(hg.block w.heap.size G1.out.2.2.1 (fun h => by have := HB.out.2.2 _ h.symm; omega)).trans G1.out.1, G1.out.2.1.grown hg (fun q hq => fpC_mem.2 (.inr (.inr hq))), Nat.lt_of_lt_of_le G1.out.2.2.1 hg.size, World.ownsRow.kept G1.out.2.2.2.1 hg HPA.out.2.1.1, World.ownsRow.kept G1.out.2.2.2.2.1 hg HPA.out.2.2.1, ho⟩
  clear ho hg G1 E2
  go_wp2_with fail
  go_ret
  exact ⟨by first | (rw [Int.natCast_add (k + lp + le) ld]; rfl) | (rw [show ((k + lp + le + ld : Nat) : Int) = (k : Int) + (lp : Int) + (le : Int) + (ld : Int) by omega]; rfl), ⟨_, _, _, rfl, G2.out.2.2.2.1, G2.out.2.2.2.2.1, G2.out.2.2.2.2.2, HPA.out.1, HPA.out.2.1, HPA.out.2.2⟩, G2.out.2.1⟩
set_option maxHeartbeats 3200000 in
set_option maxRecDepth 100000 in
theorem heldCert_same (c : Ct) (v : Value) (k : Nat) (w : World) (hl : c.pol.length ≤ 20000000 ∧ c.per.length ≤ 20000000 ∧ c.den.length ≤ 20000000) (hk1 : 1 ≤ k) (hk : k ≤ 100000000) (ha : CtAt w v (mkC k c)) :
    Calls Try.prog 18 #[v, .int .i64 k] w fun e w' => e = .returned (.int .i64 (((k + c.pol.length + c.per.length + c.den.length : Nat)) : Int)) ∧ Below w.heap.size w w' := by
  obtain ⟨p, e, d, rfl, h1, h2, h3⟩ := ha
  change IntAt w p (marksI k c.pol.length) at h1
  change TxtAt w e (marksT (k + c.pol.length) c.per.length) at h2
  change TxtAt w d (marksT (k + c.pol.length + c.per.length) c.den.length) at h3
  obtain ⟨ap, cp, hp⟩ : ∃ ao cap, p = .slice ao c.pol.length cap := by obtain ⟨ao, cap, h, _⟩ := h1; exact ⟨ao, cap, by rw [marksI_len] at h; exact h⟩
  obtain ⟨ae, ce, he⟩ : ∃ ao cap, e = .slice ao c.per.length cap := by obtain ⟨ao, cap, h, _⟩ := h2; exact ⟨ao, cap, by rw [marksT_len] at h; exact h⟩
  obtain ⟨ad, cd, hd⟩ : ∃ ao cap, d = .slice ao c.den.length cap := by obtain ⟨ao, cap, h, _⟩ := h3; exact ⟨ao, cap, by rw [marksT_len] at h; exact h⟩
  obtain ⟨lp, hlp⟩ : ∃ l, c.pol.length = l := ⟨_, rfl⟩
  obtain ⟨le, hle⟩ : ∃ l, c.per.length = l := ⟨_, rfl⟩
  obtain ⟨ld, hld⟩ : ∃ l, c.den.length = l := ⟨_, rfl⟩
  rw [hlp] at hp
  rw [hle] at he
  rw [hld] at hd
  subst hp he hd
  rw [hlp] at h1 h2 h3
  rw [hle] at h2 h3
  rw [hld] at h3
  rw [hlp, hle, hld] at hl
  rw [hlp, hle, hld]
  have HQ : Hid (∀ W, Below w.heap.size w W → Calls Try.prog 57 #[.slice ap lp cp, .int .i64 (k : Int)] W (fun e w' => e = .returned (.int .i64 ((k : Int) + (lp : Int))) ∧ Below W.heap.size W w') ∧ Calls Try.prog 58 #[.slice ae le ce, .int .i64 ((k : Int) + (lp : Int))] W (fun e w' => e = .returned (.int .i64 ((k : Int) + (lp : Int) + (le : Int))) ∧ Below W.heap.size W w') ∧ Calls Try.prog 58 #[.slice ad ld cd, .int .i64 ((k : Int) + (lp : Int) + (le : Int))] W (fun e w' => e = .returned (.int .i64 ((k : Int) + (lp : Int) + (le : Int) + (ld : Int))) ∧ Below W.heap.size W w')) :=
    fun W hb => ⟨heldIntS_same _ lp k W (by omega) (by omega) (h1.below hb), by have h := heldT_same _ le (k + lp) W (by omega) (by omega) (by omega) (h2.below hb); rw [Int.natCast_add] at h; exact h, by have h := heldT_same _ ld (k + lp + le) W (by omega) (by omega) (by omega) (h3.below hb); rw [Int.natCast_add, Int.natCast_add] at h; exact h⟩
  clear h1 h2 h3 hlp hle hld
  show Calls Try.prog 18 #[ctV c (.slice ap lp cp) (.slice ae le ce) (.slice ad ld cd), .int .i64 k] w _
  unfold ctV
  have n1 : ¬ (k : Int) + (lp : Int) < 0 := by omega
  have n2 : ¬ (k : Int) + (lp : Int) + (le : Int) < 0 := by omega
  have n3 : ¬ (k : Int) + (lp : Int) + (le : Int) + (ld : Int) < 0 := by omega
  go_enter Try.func18, Try.ntmps18
  go_wp2_with fail
  obtain ⟨V, hV⟩ : ∃ V, V = w.alloc (Obj.cells #[.int .i64 c.serial, .string c.issuer, .string c.subject, .int .i64 c.frm, .int .i64 c.upto, .string c.key, .bool c.ca, .int .i64 c.pathLen, .int .i64 c.usage, .slice ap lp cp, .slice ae le ce, .slice ad ld cd, .string c.sig] 29) := ⟨_, rfl⟩
  rw [← hV]
  have G : Hid (Blk V w.heap.size 29 #[.int .i64 c.serial, .string c.issuer, .string c.subject, .int .i64 c.frm, .int .i64 c.upto, .string c.key, .bool c.ca, .int .i64 c.pathLen, .int .i64 c.usage, .slice ap lp cp, .slice ae le ce, .slice ad ld cd, .string c.sig] ∧ Below w.heap.size w V ∧ w.heap.size < V.heap.size) := by rw [hV]; exact ⟨Blk.new w _ _, (Below.refl _ _).alloc (Nat.le_refl _) _, (Blk.new w _ _).lt⟩
  clear hV
  refine ((HQ.out V G.out.2.1).1).mono ?_
  rintro r u0 ⟨rfl, hb⟩
  have G0 : Hid (Blk u0 w.heap.size 29 #[.int .i64 c.serial, .string c.issuer, .string c.subject, .int .i64 c.frm, .int .i64 c.upto, .string c.key, .bool c.ca, .int .i64 c.pathLen, .int .i64 c.usage, .slice ap lp cp, .slice ae le ce, .slice ad ld cd, .string c.sig] ∧ Below w.heap.size w u0 ∧ w.heap.size < u0.heap.size) := ⟨G.out.1.below hb G.out.2.2, G.out.2.1.trans (hb.mono G.out.2.1.size), Nat.lt_of_lt_of_le G.out.2.2 hb.size⟩
  clear hb G
  have ca : u0.cell? ⟨w.heap.size, 10, none⟩ = some (.slice ae le ce) := G0.out.1.cell 10
  go_wp2_with fail
  clear ca
  refine ((HQ.out u0 G0.out.2.1).2.1).mono ?_
  rintro r u1 ⟨rfl, hb⟩
  have G1 : Hid (Blk u1 w.heap.size 29 #[.int .i64 c.serial, .string c.issuer, .string c.subject, .int .i64 c.frm, .int .i64 c.upto, .string c.key, .bool c.ca, .int .i64 c.pathLen, .int .i64 c.usage, .slice ap lp cp, .slice ae le ce, .slice ad ld cd, .string c.sig] ∧ Below w.heap.size w u1 ∧ w.heap.size < u1.heap.size) := ⟨G0.out.1.below hb G0.out.2.2, G0.out.2.1.trans (hb.mono G0.out.2.1.size), Nat.lt_of_lt_of_le G0.out.2.2 hb.size⟩
  clear hb G0
  have ca : u1.cell? ⟨w.heap.size, 11, none⟩ = some (.slice ad ld cd) := G1.out.1.cell 11
  go_wp2_with fail
  clear ca
  refine ((HQ.out u1 G1.out.2.1).2.2).mono ?_
  rintro r u2 ⟨rfl, hb⟩
  have G2 : Hid (Blk u2 w.heap.size 29 #[.int .i64 c.serial, .string c.issuer, .string c.subject, .int .i64 c.frm, .int .i64 c.upto, .string c.key, .bool c.ca, .int .i64 c.pathLen, .int .i64 c.usage, .slice ap lp cp, .slice ae le ce, .slice ad ld cd, .string c.sig] ∧ Below w.heap.size w u2 ∧ w.heap.size < u2.heap.size) := ⟨G1.out.1.below hb G1.out.2.2, G1.out.2.1.trans (hb.mono G1.out.2.1.size), Nat.lt_of_lt_of_le G1.out.2.2 hb.size⟩
  clear hb G1
  go_wp2_with fail
  go_ret
  exact ⟨by first | (rw [Int.natCast_add (k + lp + le) ld]; rfl) | (rw [show ((k + lp + le + ld : Nat) : Int) = (k : Int) + (lp : Int) + (le : Int) + (ld : Int) by omega]; rfl), G2.out.2.1⟩
end Go.Proofs.Ytajbalokcfghbaa

/-
  The program's plainLine, and strings.Clone.
-/
namespace Go.Proofs.Ytajbalokcfghbaa
open Go.RowKit Der

theorem cloneB_any (s : ByteArray) (w : World) (hs : s.size ≤ 1000000000000) : Calls Try.prog 121 #[.string s] w fun e w' => e = .returned (.string s) ∧ Below w.heap.size w w' := by
  go_enter Try.func121, Try.ntmps121
  go_wp2_with (go_at_call 139; refine (Try.stringslite_Clone s _ (by omega)).mono ?_; rintro e w1 ⟨rfl, hb1⟩)
  go_ret
  exact ⟨rfl, hb1⟩
/-- Bytes that a line may have. -/
def lineB (l : List UInt8) : Bool := l.all fun b => decide (32 ≤ b) && decide (b ≤ 126)
theorem lineB_bad {s : ByteArray} {k : Nat} (hk : k < s.size) (h : s[k].toNat < 32 ∨ 126 < s[k].toNat) : lineB s.data.toList = false := by
  unfold lineB
  rw [List.all_eq_false]
  refine ⟨s[k], ?_, ?_⟩
  · rw [List.mem_iff_getElem]
    exact ⟨k, by simpa using hk, rfl⟩
  · simp only [Bool.and_eq_true, decide_eq_true_eq, UInt8.le_iff_toNat_le]
    intro h2
    have h3 : (32 : UInt8).toNat = 32 := rfl
    have h4 : (126 : UInt8).toNat = 126 := rfl
    omega
theorem lineB_ok {s : ByteArray} (h : ∀ k (hk : k < s.size), 32 ≤ s[k].toNat ∧ s[k].toNat ≤ 126) : lineB s.data.toList = true := by
  unfold lineB
  rw [List.all_eq_true]
  intro b hb
  obtain ⟨k, hk, rfl⟩ := List.getElem_of_mem hb
  have := h k (by simpa using hk)
  simp only [Bool.and_eq_true, decide_eq_true_eq, UInt8.le_iff_toNat_le]
  exact this

set_option maxHeartbeats 800000 in
set_option maxRecDepth 100000 in
theorem plainLineB_any (s : ByteArray) (w : World) (hs : s.size ≤ 1000000000000) : Calls Try.prog 137 #[.string s] w fun e w' => e = .returned (.bool (lineB s.data.toList)) ∧ Below w.heap.size w w' := by
  have hcv := fun w => run_bytes_of_string (P := Try.prog) w 9 128 5 s Try.underlying9 Try.underlying128 Try.underlying5
  go_enter Try.func137, Try.ntmps137
  go_wp2
  generalize hC : grownCap w s.size 0 5 = C
  have HCell : Hid (∀ j (hj : j < s.size), ((w.alloc (.cells (bytesRow s C) 5 ((bytesRow s C).size, (bytesRow s C).size + 1))).drew).cell? ⟨w.heap.size, j, none⟩ = some (.int .u8 ((s[j]'hj).toNat : Int))) := fun j hj => by
    show (w.alloc (.cells (bytesRow s C) 5 ((bytesRow s C).size, (bytesRow s C).size + 1))).cell? ⟨w.heap.size, j, none⟩ = _
    rw [World.cell?_alloc_mark, bytesRow_at s C j hj]; rfl
  clear hC hcv
  go_loopw [8] (fun iv wr => ∃ k : Nat, k ≤ s.size ∧ iv = .int .i64 k ∧ Hid (∀ j (hj : j < s.size), j < k → 32 ≤ s[j].toNat ∧ s[j].toNat ≤ 126) ∧ (w.alloc (.cells (bytesRow s C) 5 ((bytesRow s C).size, (bytesRow s C).size + 1))).drew = wr) (fun iv _ => s.size - (intOf iv).toNat)
  case atStart => exact ⟨0, Nat.zero_le _, rfl, fun j _ h => absurd h (Nat.not_lt_zero _), rfl⟩
  case round =>
    obtain ⟨k, hk, rfl, HP, rfl⟩ := hrel
    by_cases hlt : k < s.size
    · have hc := s[k].toNat_lt
      have hck : (w.alloc (.cells (bytesRow s C) 5 ((bytesRow s C).size, (bytesRow s C).size + 1))).cell? ⟨w.heap.size, k, none⟩ = some (.int .u8 (s[k].toNat : Int)) := HCell.out k hlt
      by_cases h1 : s[k].toNat < 32
      · have HF : Hid (lineB s.data.toList = false) := lineB_bad hlt (.inl h1)
        go_wp2
        go_ret
        exact ⟨by rw [HF.out]; rfl, ((Below.refl _ _).alloc (Nat.le_refl _) _).drew⟩
      · by_cases h2 : 126 < s[k].toNat
        · have HF : Hid (lineB s.data.toList = false) := lineB_bad hlt (.inr h2)
          go_wp2
          go_ret
          exact ⟨by rw [HF.out]; rfl, ((Below.refl _ _).alloc (Nat.le_refl _) _).drew⟩
        · have HN : Hid (∀ j (hj : j < s.size), j < k + 1 → 32 ≤ s[j].toNat ∧ s[j].toNat ≤ 126) := fun j hj hjk => by
            by_cases e : j = k
            · subst e; omega
            · exact HP.out j hj (by omega)
          go_wp2
          go_roundw
          case rel => exact ⟨k + 1, by omega, by go_num, HN, by first | rfl | trivial⟩
          case measure => simp [intOf]; omega
    · have HF : Hid (lineB s.data.toList = true) := lineB_ok fun j hj => HP.out j hj (by omega)
      go_wp2
      go_ret
      exact ⟨by rw [HF.out]; rfl, ((Below.refl _ _).alloc (Nat.le_refl _) _).drew⟩
end Go.Proofs.Ytajbalokcfghbaa
