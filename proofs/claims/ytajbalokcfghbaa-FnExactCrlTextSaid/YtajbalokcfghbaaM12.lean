/-
  Texts of the proof, one behind the other: CrJ, ClB.
-/
import Derived.Test.YtajbalokcfghbaaM5
import Derived.Test.YtajbalokcfghbaaM6
import Derived.Test.YtajbalokcfghbaaM7
import Derived.Test.YtajbalokcfghbaaM11

/-
  The laws' markCert, heldCert.
-/
namespace Go.Proofs.Ytajbalokcfghbaa
open Go.RowKit
set_option linter.unusedVariables false

/-- A letter whose lists are marked from k on. -/
def mkC (k : Nat) (c : Ct) : Ct := { c with pol := marksI k c.pol.length, per := marksT (k + c.pol.length) c.per.length, den := marksT (k + c.pol.length + c.per.length) c.den.length }
/-- The blocks that a letter's lists take. -/
def fpC (v : Value) : List Nat := match v with
  | .agg a => (a.getD 9 (.slice none 0 0)).ownBlock.toList ++ ((a.getD 10 (.slice none 0 0)).ownBlock.toList ++ (a.getD 11 (.slice none 0 0)).ownBlock.toList)
  | _ => []
theorem fpC_mem {c : Ct} {p e d : Value} {g : Nat} : g ∈ fpC (ctV c p e d) ↔ p.ownBlock = some g ∨ e.ownBlock = some g ∨ d.ownBlock = some g := by
  show g ∈ p.ownBlock.toList ++ (e.ownBlock.toList ++ d.ownBlock.toList) ↔ _
  simp [List.mem_append, Option.mem_toList]
theorem fpC_lt {w : World} {base : Nat} {v : Value} {c : Ct} (h : OwnC w base v c) : ∀ b ∈ fpC v, base ≤ b ∧ b < w.heap.size := by
  obtain ⟨p, e, d, rfl, h1, h2, h3, _⟩ := h
  intro b hb
  rcases fpC_mem.1 hb with h | h | h
  · exact World.ownsRow.lt h1 b h
  · exact World.ownsRow.lt h2 b h
  · exact World.ownsRow.lt h3 b h
theorem Out.grown {fp : List Nat} {a b c : World} {row : Option Nat} (h : Out fp a b) (hg : b.grownBy c row) (hr : ∀ q, row = some q → q ∈ fp) : Out fp a c :=
  h.trans ⟨hg.os, hg.tape, hg.output, hg.size, fun k hk hn => hg.block k hk fun e => hn (hr k e.symm)⟩
theorem Out.row {fp : List Nat} {a b : World} {v : Value} (h : Out fp a b) (hv : ∀ g, v.ownBlock = some g → g ∉ fp) : ∀ {base : Nat} {e : TypeId} {size n : Nat} {xs : List Value}, a.ownsRow base e size v n xs → b.ownsRow base e size v n xs := by
  intro base e size n xs ho
  refine ⟨ho.1, ?_⟩
  rcases ho.2 with hn | ⟨g, cap, cur, rfl, hb, hgg, rest⟩
  · exact .inl hn
  · refine .inr ⟨g, cap, cur, rfl, hb, ?_, rest⟩
    rw [h.2.2.2.2 g (Array.getElem?_eq_some_iff.1 hgg).1 (hv g rfl)]
    exact hgg
theorem OwnC.out {w w' : World} {base : Nat} {v : Value} {c : Ct} {fp : List Nat} (h : OwnC w base v c) (ho : Out fp w w') (hn : ∀ b ∈ fpC v, b ∉ fp) : OwnC w' base v c := by
  obtain ⟨p, e, d, rfl, h1, h2, h3, h4⟩ := h
  exact ⟨p, e, d, rfl, ho.row (fun g hg => hn g (fpC_mem.2 (.inl hg))) h1, ho.row (fun g hg => hn g (fpC_mem.2 (.inr (.inl hg)))) h2, ho.row (fun g hg => hn g (fpC_mem.2 (.inr (.inr hg)))) h3, h4⟩
set_option maxHeartbeats 3200000 in
set_option maxRecDepth 100000 in
theorem markCert_out (c : Ct) (v : Value) (k base : Nat) (w : World) (hl : c.pol.length ≤ 20000000 ∧ c.per.length ≤ 20000000 ∧ c.den.length ≤ 20000000) (hk1 : 1 ≤ k) (hk : k ≤ 100000000) (hbase : base ≤ w.heap.size) (ha : OwnC w base v c) :
    Calls Try.prog 17 #[v, .int .i64 k] w fun e w' => e = .returned (.int .i64 (((k + c.pol.length + c.per.length + c.den.length : Nat)) : Int)) ∧ OwnC w' base v (mkC k c) ∧ Out (fpC v) w w' := by
  obtain ⟨p, e, d, rfl, h1, h2, h3, h4⟩ := ha
  obtain ⟨ap, cp, hp⟩ : ∃ ao cap, p = .slice ao c.pol.length cap := by obtain ⟨ao, cap, h, _⟩ := h1.at; exact ⟨ao, cap, h⟩
  obtain ⟨ae, ce, he⟩ : ∃ ao cap, e = .slice ao c.per.length cap := by obtain ⟨ao, cap, h, _⟩ := h2.at; exact ⟨ao, cap, h⟩
  obtain ⟨ad, cd, hd⟩ : ∃ ao cap, d = .slice ao c.den.length cap := by obtain ⟨ao, cap, h, _⟩ := h3.at; exact ⟨ao, cap, h⟩
  obtain ⟨lp, hlp⟩ : ∃ l, c.pol.length = l := ⟨_, rfl⟩
  obtain ⟨le, hle⟩ : ∃ l, c.per.length = l := ⟨_, rfl⟩
  obtain ⟨ld, hld⟩ : ∃ l, c.den.length = l := ⟨_, rfl⟩
  rw [hlp] at hp
  rw [hle] at he
  rw [hld] at hd
  subst hp he hd
  have B1 := fun g hg => (World.ownsRow.lt h1 g hg).2
  have B2 := fun g hg => (World.ownsRow.lt h2 g hg).2
  have B3 := fun g hg => (World.ownsRow.lt h3 g hg).2
  have HA : Hid (OwnI w base (.slice ap lp cp) c.pol ∧ OwnT w base (.slice ae le ce) c.per ∧ OwnT w base (.slice ad ld cd) c.den ∧ c.pol.length = lp ∧ c.per.length = le ∧ c.den.length = ld) := ⟨h1, h2, h3, hlp, hle, hld⟩
  have HP := h4
  have HB : Hid ((∀ g, (Value.slice ap lp cp).ownBlock = some g → g < w.heap.size) ∧ (∀ g, (Value.slice ae le ce).ownBlock = some g → g < w.heap.size) ∧ (∀ g, (Value.slice ad ld cd).ownBlock = some g → g < w.heap.size)) := ⟨B1, B2, B3⟩
  have HPA : Hid ((Ap (Value.slice ap lp cp) (Value.slice ae le ce) ∧ Ap (Value.slice ae le ce) (Value.slice ap lp cp)) ∧ (Ap (Value.slice ap lp cp) (Value.slice ad ld cd) ∧ Ap (Value.slice ad ld cd) (Value.slice ap lp cp)) ∧ (Ap (Value.slice ae le ce) (Value.slice ad ld cd) ∧ Ap (Value.slice ad ld cd) (Value.slice ae le ce))) := h4
  rw [hlp, hle, hld] at hl
  have hm : mkC k c = { c with pol := marksI k lp, per := marksT (k + lp) le, den := marksT (k + lp + le) ld } := by unfold mkC; rw [hlp, hle, hld]
  rw [hm, hlp, hle, hld]
  clear h1 h2 h3 h4 HP B1 B2 B3 hm hlp hle hld
  unfold ctV
  go_enter Try.func17, Try.ntmps17
  go_wp2_with fail
  obtain ⟨V, hV⟩ : ∃ V, V = w.alloc (Obj.cells #[.int .i64 c.serial, .string c.issuer, .string c.subject, .int .i64 c.frm, .int .i64 c.upto, .string c.key, .bool c.ca, .int .i64 c.pathLen, .int .i64 c.usage, .slice ap lp cp, .slice ae le ce, .slice ad ld cd, .string c.sig] 29) := ⟨_, rfl⟩
  rw [← hV]
  have G : Hid (Blk V w.heap.size 29 #[.int .i64 c.serial, .string c.issuer, .string c.subject, .int .i64 c.frm, .int .i64 c.upto, .string c.key, .bool c.ca, .int .i64 c.pathLen, .int .i64 c.usage, .slice ap lp cp, .slice ae le ce, .slice ad ld cd, .string c.sig] ∧ Out (fpC (ctV c (.slice ap lp cp) (.slice ae le ce) (.slice ad ld cd))) w V ∧ w.heap.size < V.heap.size ∧ OwnI V base (.slice ap lp cp) c.pol ∧ OwnT V base (.slice ae le ce) c.per ∧ OwnT V base (.slice ad ld cd) c.den) := by
    have hb : Below w.heap.size w V := by rw [hV]; exact (Below.refl _ _).alloc (Nat.le_refl _) _
    have hq : Blk V w.heap.size 29 #[.int .i64 c.serial, .string c.issuer, .string c.subject, .int .i64 c.frm, .int .i64 c.upto, .string c.key, .bool c.ca, .int .i64 c.pathLen, .int .i64 c.usage, .slice ap lp cp, .slice ae le ce, .slice ad ld cd, .string c.sig] := by rw [hV]; exact Blk.new w _ _
    exact ⟨hq, Out.of_below hb, hq.lt, HA.out.1.stays hb, HA.out.2.1.stays hb, HA.out.2.2.1.stays hb⟩
  clear hV
  have E0 := mark_any (.slice ap lp cp) c.pol (k) base V (by rw [HA.out.2.2.2.1]; omega) (by omega) G.out.2.2.2.1
  rw [HA.out.2.2.2.1] at E0
  refine E0.mono ?_
  rintro r u0 ⟨rfl, ho, hg⟩
  have G0 : Hid (Blk u0 w.heap.size 29 #[.int .i64 c.serial, .string c.issuer, .string c.subject, .int .i64 c.frm, .int .i64 c.upto, .string c.key, .bool c.ca, .int .i64 c.pathLen, .int .i64 c.usage, .slice ap lp cp, .slice ae le ce, .slice ad ld cd, .string c.sig] ∧ Out (fpC (ctV c (.slice ap lp cp) (.slice ae le ce) (.slice ad ld cd))) w u0 ∧ w.heap.size < u0.heap.size ∧ OwnI u0 base (.slice ap lp cp) (marksI (k) lp) ∧ OwnT u0 base (.slice ae le ce) c.per ∧ OwnT u0 base (.slice ad ld cd) c.den) := by
    refine ⟨(hg.block w.heap.size G.out.2.2.1 (fun h => by have := HB.out.1 _ h.symm; omega)).trans G.out.1, G.out.2.1.grown hg (fun q hq => fpC_mem.2 (.inl hq)), Nat.lt_of_lt_of_le G.out.2.2.1 hg.size, ho, World.ownsRow.kept G.out.2.2.2.2.1 hg HPA.out.1.2, World.ownsRow.kept G.out.2.2.2.2.2 hg HPA.out.2.1.2⟩
  clear ho hg G E0
  have ca : u0.cell? ⟨w.heap.size, 10, none⟩ = some (.slice ae le ce) := G0.out.1.cell 10
  go_wp2_with fail
  rw [← Int.natCast_add k lp]
  clear ca
  have E1 := markT_any (.slice ae le ce) c.per (k + lp) base u0 (by rw [HA.out.2.2.2.2.1]; omega) (by omega) (by omega) G0.out.2.2.2.2.1
  rw [HA.out.2.2.2.2.1] at E1
  refine E1.mono ?_
  rintro r u1 ⟨rfl, ho, hg⟩
  have G1 : Hid (Blk u1 w.heap.size 29 #[.int .i64 c.serial, .string c.issuer, .string c.subject, .int .i64 c.frm, .int .i64 c.upto, .string c.key, .bool c.ca, .int .i64 c.pathLen, .int .i64 c.usage, .slice ap lp cp, .slice ae le ce, .slice ad ld cd, .string c.sig] ∧ Out (fpC (ctV c (.slice ap lp cp) (.slice ae le ce) (.slice ad ld cd))) w u1 ∧ w.heap.size < u1.heap.size ∧ OwnI u1 base (.slice ap lp cp) (marksI (k) lp) ∧ OwnT u1 base (.slice ae le ce) (marksT (k + lp) le) ∧ OwnT u1 base (.slice ad ld cd) c.den) := by
    refine ⟨(hg.block w.heap.size G0.out.2.2.1 (fun h => by have := HB.out.2.1 _ h.symm; omega)).trans G0.out.1, G0.out.2.1.grown hg (fun q hq => fpC_mem.2 (.inr (.inl hq))), Nat.lt_of_lt_of_le G0.out.2.2.1 hg.size, World.ownsRow.kept G0.out.2.2.2.1 hg HPA.out.1.1, ho, World.ownsRow.kept G0.out.2.2.2.2.2 hg HPA.out.2.2.2⟩
  clear ho hg G0 E1
  have ca : u1.cell? ⟨w.heap.size, 11, none⟩ = some (.slice ad ld cd) := G1.out.1.cell 11
  go_wp2_with fail
  rw [← Int.natCast_add k lp, ← Int.natCast_add (k + lp) le]
  clear ca
  have E2 := markT_any (.slice ad ld cd) c.den (k + lp + le) base u1 (by rw [HA.out.2.2.2.2.2]; omega) (by omega) (by omega) G1.out.2.2.2.2.2
  rw [HA.out.2.2.2.2.2] at E2
  refine E2.mono ?_
  rintro r u2 ⟨rfl, ho, hg⟩
  have G2 : Hid (Blk u2 w.heap.size 29 #[.int .i64 c.serial, .string c.issuer, .string c.subject, .int .i64 c.frm, .int .i64 c.upto, .string c.key, .bool c.ca, .int .i64 c.pathLen, .int .i64 c.usage, .slice ap lp cp, .slice ae le ce, .slice ad ld cd, .string c.sig] ∧ Out (fpC (ctV c (.slice ap lp cp) (.slice ae le ce) (.slice ad ld cd))) w u2 ∧ w.heap.size < u2.heap.size ∧ OwnI u2 base (.slice ap lp cp) (marksI (k) lp) ∧ OwnT u2 base (.slice ae le ce) (marksT (k + lp) le) ∧ OwnT u2 base (.slice ad ld cd) (marksT (k + lp + le) ld)) := by
    refine ⟨(hg.block w.heap.size G1.out.2.2.1 (fun h => by have := HB.out.2.2 _ h.symm; omega)).trans G1.out.1, G1.out.2.1.grown hg (fun q hq => fpC_mem.2 (.inr (.inr hq))), Nat.lt_of_lt_of_le G1.out.2.2.1 hg.size, World.ownsRow.kept G1.out.2.2.2.1 hg HPA.out.2.1.1, World.ownsRow.kept G1.out.2.2.2.2.1 hg HPA.out.2.2.1, ho⟩
  clear ho hg G1 E2
  go_wp2_with fail
  go_ret
  exact ⟨by first | (rw [Int.natCast_add (k + lp + le) ld]; rfl) | (rw [show ((k + lp + le + ld : Nat) : Int) = (k : Int) + (lp : Int) + (le : Int) + (ld : Int) by omega]; rfl), ⟨_, _, _, rfl, G2.out.2.2.2.1, G2.out.2.2.2.2.1, G2.out.2.2.2.2.2, HPA.out.1, HPA.out.2.1, HPA.out.2.2⟩, G2.out.2.1⟩
theorem markCert_any (c : Ct) (v : Value) (k base : Nat) (w : World) (hl : c.pol.length ≤ 20000000 ∧ c.per.length ≤ 20000000 ∧ c.den.length ≤ 20000000) (hk1 : 1 ≤ k) (hk : k ≤ 100000000) (hbase : base ≤ w.heap.size) (ha : OwnC w base v c) :
    Calls Try.prog 17 #[v, .int .i64 k] w fun e w' => e = .returned (.int .i64 (((k + c.pol.length + c.per.length + c.den.length : Nat)) : Int)) ∧ OwnC w' base v (mkC k c) ∧ Below base w w' :=
  (markCert_out c v k base w hl hk1 hk hbase ha).mono fun e w' ⟨h1, h2, h3⟩ => ⟨h1, h2, h3.below (fun x hx => (fpC_lt ha x hx).1) hbase⟩
set_option maxHeartbeats 3200000 in
set_option maxRecDepth 100000 in
theorem heldCert_same (c : Ct) (v : Value) (k : Nat) (w : World) (hl : c.pol.length ≤ 20000000 ∧ c.per.length ≤ 20000000 ∧ c.den.length ≤ 20000000) (hk1 : 1 ≤ k) (hk : k ≤ 100000000) (ha : CtAt w v (mkC k c)) :
    Calls Try.prog 18 #[v, .int .i64 k] w fun e w' => e = .returned (.int .i64 (((k + c.pol.length + c.per.length + c.den.length : Nat)) : Int)) ∧ Below w.heap.size w w' := by
  obtain ⟨p, e, d, rfl, h1, h2, h3⟩ := ha
  change IntAt w p (marksI k c.pol.length) at h1
  change TxtAt w e (marksT (k + c.pol.length) c.per.length) at h2
  change TxtAt w d (marksT (k + c.pol.length + c.per.length) c.den.length) at h3
  obtain ⟨ap, cp, hp⟩ : ∃ ao cap, p = .slice ao c.pol.length cap := by obtain ⟨ao, cap, h, _⟩ := h1; exact ⟨ao, cap, by rw [marksI_len] at h; exact h⟩
  obtain ⟨ae, ce, he⟩ : ∃ ao cap, e = .slice ao c.per.length cap := by obtain ⟨ao, cap, h, _⟩ := h2; exact ⟨ao, cap, by rw [marksT_len] at h; exact h⟩
  obtain ⟨ad, cd, hd⟩ : ∃ ao cap, d = .slice ao c.den.length cap := by obtain ⟨ao, cap, h, _⟩ := h3; exact ⟨ao, cap, by rw [marksT_len] at h; exact h⟩
  obtain ⟨lp, hlp⟩ : ∃ l, c.pol.length = l := ⟨_, rfl⟩
  obtain ⟨le, hle⟩ : ∃ l, c.per.length = l := ⟨_, rfl⟩
  obtain ⟨ld, hld⟩ : ∃ l, c.den.length = l := ⟨_, rfl⟩
  rw [hlp] at hp
  rw [hle] at he
  rw [hld] at hd
  subst hp he hd
  rw [hlp] at h1 h2 h3
  rw [hle] at h2 h3
  rw [hld] at h3
  rw [hlp, hle, hld] at hl
  rw [hlp, hle, hld]
  have HQ : Hid (∀ W, Below w.heap.size w W → Calls Try.prog 57 #[.slice ap lp cp, .int .i64 (k : Int)] W (fun e w' => e = .returned (.int .i64 ((k : Int) + (lp : Int))) ∧ Below W.heap.size W w') ∧ Calls Try.prog 58 #[.slice ae le ce, .int .i64 ((k : Int) + (lp : Int))] W (fun e w' => e = .returned (.int .i64 ((k : Int) + (lp : Int) + (le : Int))) ∧ Below W.heap.size W w') ∧ Calls Try.prog 58 #[.slice ad ld cd, .int .i64 ((k : Int) + (lp : Int) + (le : Int))] W (fun e w' => e = .returned (.int .i64 ((k : Int) + (lp : Int) + (le : Int) + (ld : Int))) ∧ Below W.heap.size W w')) :=
    fun W hb => ⟨heldIntS_same _ lp k W (by omega) (by omega) (h1.below hb), by have h := heldT_same _ le (k + lp) W (by omega) (by omega) (by omega) (h2.below hb); rw [Int.natCast_add] at h; exact h, by have h := heldT_same _ ld (k + lp + le) W (by omega) (by omega) (by omega) (h3.below hb); rw [Int.natCast_add, Int.natCast_add] at h; exact h⟩
  clear h1 h2 h3 hlp hle hld
  show Calls Try.prog 18 #[ctV c (.slice ap lp cp) (.slice ae le ce) (.slice ad ld cd), .int .i64 k] w _
  unfold ctV
  have n1 : ¬ (k : Int) + (lp : Int) < 0 := by omega
  have n2 : ¬ (k : Int) + (lp : Int) + (le : Int) < 0 := by omega
  have n3 : ¬ (k : Int) + (lp : Int) + (le : Int) + (ld : Int) < 0 := by omega
  go_enter Try.func18, Try.ntmps18
  go_wp2_with fail
  obtain ⟨V, hV⟩ : ∃ V, V = w.alloc (Obj.cells #[.int .i64 c.serial, .string c.issuer, .string c.subject, .int .i64 c.frm, .int .i64 c.upto, .string c.key, .bool c.ca, .int .i64 c.pathLen, .int .i64 c.usage, .slice ap lp cp, .slice ae le ce, .slice ad ld cd, .string c.sig] 29) := ⟨_, rfl⟩
  rw [← hV]
  have G : Hid (Blk V w.heap.size 29 #[.int .i64 c.serial, .string c.issuer, .string c.subject, .int .i64 c.frm, .int .i64 c.upto, .string c.key, .bool c.ca, .int .i64 c.pathLen, .int .i64 c.usage, .slice ap lp cp, .slice ae le ce, .slice ad ld cd, .string c.sig] ∧ Below w.heap.size w V ∧ w.heap.size < V.heap.size) := by rw [hV]; exact ⟨Blk.new w _ _, (Below.refl _ _).alloc (Nat.le_refl _) _, (Blk.new w _ _).lt⟩
  clear hV
  refine ((HQ.out V G.out.2.1).1).mono ?_
  rintro r u0 ⟨rfl, hb⟩
  have G0 : Hid (Blk u0 w.heap.size 29 #[.int .i64 c.serial, .string c.issuer, .string c.subject, .int .i64 c.frm, .int .i64 c.upto, .string c.key, .bool c.ca, .int .i64 c.pathLen, .int .i64 c.usage, .slice ap lp cp, .slice ae le ce, .slice ad ld cd, .string c.sig] ∧ Below w.heap.size w u0 ∧ w.heap.size < u0.heap.size) := ⟨G.out.1.below hb G.out.2.2, G.out.2.1.trans (hb.mono G.out.2.1.size), Nat.lt_of_lt_of_le G.out.2.2 hb.size⟩
  clear hb G
  have ca : u0.cell? ⟨w.heap.size, 10, none⟩ = some (.slice ae le ce) := G0.out.1.cell 10
  go_wp2_with fail
  clear ca
  refine ((HQ.out u0 G0.out.2.1).2.1).mono ?_
  rintro r u1 ⟨rfl, hb⟩
  have G1 : Hid (Blk u1 w.heap.size 29 #[.int .i64 c.serial, .string c.issuer, .string c.subject, .int .i64 c.frm, .int .i64 c.upto, .string c.key, .bool c.ca, .int .i64 c.pathLen, .int .i64 c.usage, .slice ap lp cp, .slice ae le ce, .slice ad ld cd, .string c.sig] ∧ Below w.heap.size w u1 ∧ w.heap.size < u1.heap.size) := ⟨G0.out.1.below hb G0.out.2.2, G0.out.2.1.trans (hb.mono G0.out.2.1.size), Nat.lt_of_lt_of_le G0.out.2.2 hb.size⟩
  clear hb G0
  have ca : u1.cell? ⟨w.heap.size, 11, none⟩ = some (.slice ad ld cd) := G1.out.1.cell 11
  go_wp2_with fail
  clear ca
  refine ((HQ.out u1 G1.out.2.1).2.2).mono ?_
  rintro r u2 ⟨rfl, hb⟩
  have G2 : Hid (Blk u2 w.heap.size 29 #[.int .i64 c.serial, .string c.issuer, .string c.subject, .int .i64 c.frm, .int .i64 c.upto, .string c.key, .bool c.ca, .int .i64 c.pathLen, .int .i64 c.usage, .slice ap lp cp, .slice ae le ce, .slice ad ld cd, .string c.sig] ∧ Below w.heap.size w u2 ∧ w.heap.size < u2.heap.size) := ⟨G1.out.1.below hb G1.out.2.2, G1.out.2.1.trans (hb.mono G1.out.2.1.size), Nat.lt_of_lt_of_le G1.out.2.2 hb.size⟩
  clear hb G1
  go_wp2_with fail
  go_ret
  exact ⟨by first | (rw [Int.natCast_add (k + lp + le) ld]; rfl) | (rw [show ((k + lp + le + ld : Nat) : Int) = (k : Int) + (lp : Int) + (le : Int) + (ld : Int) by omega]; rfl), G2.out.2.1⟩
end Go.Proofs.Ytajbalokcfghbaa

/-
  The laws' toCrl, szCrl, eqCrl, markCrl, heldCrl.
-/
namespace Go.Proofs.Ytajbalokcfghbaa
open Go.RowKit
set_option linter.unusedVariables false

set_option maxHeartbeats 6400000 in
set_option maxRecDepth 100000 in
theorem toCrl_any (c : Cl) (v : Value) (B : Nat) (w : World) (hl : c.revs.length ≤ 1048576) (hB : B ≤ w.heap.size) (ha : ArgL B w v c) :
    Calls Try.prog 21 #[v] w fun e w' => ∃ u, e = .returned u ∧ OwnL w' w.heap.size u c ∧ Below w.heap.size w w' := by
  obtain ⟨pa, pc, rfl, h1⟩ := ha
  have HA : Hid (ArgR B w pa c.revs ∧ c.revs.length ≤ 1048576) := ⟨h1, hl⟩
  clear h1 hl
  unfold clV
  go_enter Try.func21, Try.ntmps21
  go_wp2_with fail
  obtain ⟨W3, hW3⟩ : ∃ W, W = ((w.alloc (Obj.cells #[.string c.issuer, .int .i64 c.num, .int .i64 c.ths, .int .i64 c.nxt, .int .i64 c.bas, .slice pa c.revs.length pc, .string c.sig] 39)).alloc (Obj.cells #[.string ⟨#[]⟩, .int .i64 0, .int .i64 0, .int .i64 0, .int .i64 0, .slice none 0 0, .string ⟨#[]⟩] 44)).alloc (Obj.cells #[.string c.issuer, .int .i64 c.num, .int .i64 c.ths, .int .i64 c.nxt, .int .i64 c.bas, .slice none 0 0, .string ⟨#[]⟩] 44) := ⟨_, rfl⟩
  change Calls _ _ _ (((w.alloc (Obj.cells #[.string c.issuer, .int .i64 c.num, .int .i64 c.ths, .int .i64 c.nxt, .int .i64 c.bas, .slice pa c.revs.length pc, .string c.sig] 39)).alloc (Obj.cells #[.string ⟨#[]⟩, .int .i64 0, .int .i64 0, .int .i64 0, .int .i64 0, .slice none 0 0, .string ⟨#[]⟩] 44)).alloc (Obj.cells #[.string c.issuer, .int .i64 c.num, .int .i64 c.ths, .int .i64 c.nxt, .int .i64 c.bas, .slice none 0 0, .string ⟨#[]⟩] 44)) _
  rw [← hW3]
  have e0 : (w.alloc (Obj.cells #[.string c.issuer, .int .i64 c.num, .int .i64 c.ths, .int .i64 c.nxt, .int .i64 c.bas, .slice pa c.revs.length pc, .string c.sig] 39)).heap.size = w.heap.size + 1 := Array.size_push _
  have e1 : ((w.alloc (Obj.cells #[.string c.issuer, .int .i64 c.num, .int .i64 c.ths, .int .i64 c.nxt, .int .i64 c.bas, .slice pa c.revs.length pc, .string c.sig] 39)).alloc (Obj.cells #[.string ⟨#[]⟩, .int .i64 0, .int .i64 0, .int .i64 0, .int .i64 0, .slice none 0 0, .string ⟨#[]⟩] 44)).heap.size = w.heap.size + 1 + 1 := by rw [size_alloc, e0]
  have G0 : Hid ((Blk W3 w.heap.size 39 #[.string c.issuer, .int .i64 c.num, .int .i64 c.ths, .int .i64 c.nxt, .int .i64 c.bas, .slice pa c.revs.length pc, .string c.sig] ∧ Blk W3 (w.heap.size + 1) 44 #[.string ⟨#[]⟩, .int .i64 0, .int .i64 0, .int .i64 0, .int .i64 0, .slice none 0 0, .string ⟨#[]⟩] ∧ Blk W3 (w.heap.size + 1 + 1) 44 #[.string c.issuer, .int .i64 c.num, .int .i64 c.ths, .int .i64 c.nxt, .int .i64 c.bas, .slice none 0 0, .string ⟨#[]⟩] ∧ Below w.heap.size w W3) ∧ w.heap.size + 1 + 1 + 1 ≤ W3.heap.size) := by
    rw [hW3]
    refine ⟨⟨((Blk.new w _ _).alloc _).alloc _, ?_, ?_, (((Below.refl _ _).alloc (Nat.le_refl _) _).alloc (by rw [e0]; omega) _).alloc (by rw [e1]; omega) _⟩, by rw [size_alloc, e1]; omega⟩
    · have h := (Blk.new (w.alloc (Obj.cells #[.string c.issuer, .int .i64 c.num, .int .i64 c.ths, .int .i64 c.nxt, .int .i64 c.bas, .slice pa c.revs.length pc, .string c.sig] 39)) 44 #[.string ⟨#[]⟩, .int .i64 0, .int .i64 0, .int .i64 0, .int .i64 0, .slice none 0 0, .string ⟨#[]⟩]).alloc (Obj.cells #[.string c.issuer, .int .i64 c.num, .int .i64 c.ths, .int .i64 c.nxt, .int .i64 c.bas, .slice none 0 0, .string ⟨#[]⟩] 44)
      rw [e0] at h
      exact h
    · have h := Blk.new ((w.alloc (Obj.cells #[.string c.issuer, .int .i64 c.num, .int .i64 c.ths, .int .i64 c.nxt, .int .i64 c.bas, .slice pa c.revs.length pc, .string c.sig] 39)).alloc (Obj.cells #[.string ⟨#[]⟩, .int .i64 0, .int .i64 0, .int .i64 0, .int .i64 0, .slice none 0 0, .string ⟨#[]⟩] 44)) 44 #[.string c.issuer, .int .i64 c.num, .int .i64 c.ths, .int .i64 c.nxt, .int .i64 c.bas, .slice none 0 0, .string ⟨#[]⟩]
      rw [e1] at h
      exact h
  clear hW3 e0 e1
  have wd1 : w.heap.size ≠ w.heap.size + 1 + 1 := by omega
  have wd2 : w.heap.size + 1 ≠ w.heap.size + 1 + 1 := by omega
  refine (toRevS_any pa c.revs c.revs.length pc B W3 rfl HA.out.2 (Nat.le_trans hB G0.out.1.2.2.2.size) (HA.out.1.below (G0.out.1.2.2.2.mono hB))).mono ?_
  rintro r u2 ⟨p, rfl, op, hb⟩
  have F2 : Hid ((Blk u2 w.heap.size 39 #[.string c.issuer, .int .i64 c.num, .int .i64 c.ths, .int .i64 c.nxt, .int .i64 c.bas, .slice pa c.revs.length pc, .string c.sig] ∧ Blk u2 (w.heap.size + 1) 44 #[.string ⟨#[]⟩, .int .i64 0, .int .i64 0, .int .i64 0, .int .i64 0, .slice none 0 0, .string ⟨#[]⟩] ∧ Blk u2 (w.heap.size + 1 + 1) 44 #[.string c.issuer, .int .i64 c.num, .int .i64 c.ths, .int .i64 c.nxt, .int .i64 c.bas, .slice none 0 0, .string ⟨#[]⟩] ∧ Below w.heap.size w u2) ∧ w.heap.size + 1 + 1 + 1 ≤ u2.heap.size ∧ OwnR u2 (w.heap.size + 1 + 1 + 1) p c.revs) := by
    have hz := G0.out.2
    exact ⟨⟨G0.out.1.1.below hb (by omega), G0.out.1.2.1.below hb (by omega), G0.out.1.2.2.1.below hb (by omega), G0.out.1.2.2.2.trans (hb.mono G0.out.1.2.2.2.size)⟩, Nat.le_trans hz hb.size, op.base hz⟩
  clear op hb G0
  have fr := fun j => F2.out.1.2.2.1.free j
  have f1 := fun j => F2.out.1.2.1.free j
  obtain ⟨qp, mp, hsp⟩ : ∃ ao cap, p = .slice ao c.revs.length cap := by obtain ⟨ao, cap, h, _⟩ := F2.out.2.2.at; exact ⟨ao, cap, h⟩
  obtain ⟨lp, hlp⟩ : ∃ l, c.revs.length = l := ⟨_, rfl⟩
  rw [hlp] at hsp
  clear hlp
  subst hsp
  have ca : u2.cell? ⟨w.heap.size, 6, none⟩ = some (.string c.sig) := F2.out.1.1.cell 6
  have c10 : u2.cell? ⟨w.heap.size + 1, 0, none⟩ = some (.string ⟨#[]⟩) := F2.out.1.2.1.cell 0
  have c20 : u2.cell? ⟨w.heap.size + 1 + 1, 0, none⟩ = some (.string c.issuer) := F2.out.1.2.2.1.cell 0
  have c11 : u2.cell? ⟨w.heap.size + 1, 1, none⟩ = some (.int .i64 0) := F2.out.1.2.1.cell 1
  have c21 : u2.cell? ⟨w.heap.size + 1 + 1, 1, none⟩ = some (.int .i64 c.num) := F2.out.1.2.2.1.cell 1
  have c12 : u2.cell? ⟨w.heap.size + 1, 2, none⟩ = some (.int .i64 0) := F2.out.1.2.1.cell 2
  have c22 : u2.cell? ⟨w.heap.size + 1 + 1, 2, none⟩ = some (.int .i64 c.ths) := F2.out.1.2.2.1.cell 2
  have c13 : u2.cell? ⟨w.heap.size + 1, 3, none⟩ = some (.int .i64 0) := F2.out.1.2.1.cell 3
  have c23 : u2.cell? ⟨w.heap.size + 1 + 1, 3, none⟩ = some (.int .i64 c.nxt) := F2.out.1.2.2.1.cell 3
  have c14 : u2.cell? ⟨w.heap.size + 1, 4, none⟩ = some (.int .i64 0) := F2.out.1.2.1.cell 4
  have c24 : u2.cell? ⟨w.heap.size + 1 + 1, 4, none⟩ = some (.int .i64 c.bas) := F2.out.1.2.2.1.cell 4
  have c15 : u2.cell? ⟨w.heap.size + 1, 5, none⟩ = some (.slice none 0 0) := F2.out.1.2.1.cell 5
  have c25 : u2.cell? ⟨w.heap.size + 1 + 1, 5, none⟩ = some (.slice none 0 0) := F2.out.1.2.2.1.cell 5
  have c16 : u2.cell? ⟨w.heap.size + 1, 6, none⟩ = some (.string ⟨#[]⟩) := F2.out.1.2.1.cell 6
  have c26 : u2.cell? ⟨w.heap.size + 1 + 1, 6, none⟩ = some (.string ⟨#[]⟩) := F2.out.1.2.2.1.cell 6
  go_wp2_with fail
  refine bodyPost_ret (v := clV c (.slice qp lp mp)) (by simp [results, Try.results21, go_sem, clV, c10, c11, c12, c13, c14, c15, c16]) rfl ⟨_, rfl, ⟨_, rfl, (F2.out.2.2.block ?far).base (by omega)⟩, ?bel⟩
  case far =>
    intro b hb
    iterate 9 rw [heap_setCell_other _ _ _ _ (by first | (show b ≠ w.heap.size + 1; omega) | (show b ≠ w.heap.size + 1 + 1; omega))]
  case bel =>
    iterate 9 refine Below.setCell ?_ (by first | (show w.heap.size ≤ w.heap.size + 1; omega) | (show w.heap.size ≤ w.heap.size + 1 + 1; omega)) _
    exact F2.out.1.2.2.2
set_option maxHeartbeats 6400000 in
set_option maxRecDepth 100000 in
theorem szCrl_any (c : Cl) (v : Value) (left : Int) (w : World) (hwd : WdL c) (h0 : 0 ≤ left) (hl : left ≤ 1048576) (ha : ArgL w.heap.size w v c) :
    Calls Try.prog 19 #[v, .int .i64 left] w fun e w' => e = .returned (.int .i64 (szL c left)) ∧ Below w.heap.size w w' := by
  obtain ⟨pa, pc, rfl, h1⟩ := ha
  obtain ⟨_, _, hs, hpl⟩ := hwd
  have s1 : c.issuer.size ≤ 9223372036854775807 := hs _ (by simp)
  have s7 : c.sig.size ≤ 9223372036854775807 := hs _ (by simp)
  clear h1 hs
  have HW : Hid ((wtL c : Int) = c.issuer.size + c.revs.length + c.sig.size) := by show (wtL c : Int) = _; unfold wtL; omega
  unfold clV
  obtain ⟨r1, hr1⟩ : ∃ r : Int, r = left - (c.issuer.size : Int) := ⟨_, rfl⟩
  have wr1 : IntKind.i64.wrap (left - (c.issuer.size : Int)) = r1 := by rw [IntKind.wrap_i64]; omega
  by_cases g1 : r1 < 0
  · have HF : Hid (szL c left = -1) := by show szL c left = _; have hw := HW.out; unfold szL; rw [if_neg (by omega)]
    clear HW hr1
    go_enter Try.func19, Try.ntmps19
    go_wp2_with fail
    go_ret
    exact ⟨by rw [HF.out]; rfl, (Below.refl _ _).alloc (Nat.le_refl _) _⟩
  obtain ⟨r2, hr2⟩ : ∃ r : Int, r = if (c.revs.length : Int) ≤ r1 then r1 - (c.revs.length : Int) else -1 := ⟨_, rfl⟩
  have Z2 : Hid (∀ W, Below w.heap.size w W → Calls Try.prog 59 #[.slice pa c.revs.length pc, .int .i64 r1] W fun e w' => e = .returned (.int .i64 r2) ∧ Below W.heap.size W w') := fun W hb => by rw [hr2]; exact szRevS_any pa c.revs.length pc r1 W hpl (by omega) (by omega)
  by_cases g2 : r2 < 0
  · have HF : Hid (szL c left = -1) := by show szL c left = _; have hw := HW.out; unfold szL; rw [if_neg (by split at hr2 <;> omega)]
    clear HW hr1 hr2
    go_enter Try.func19, Try.ntmps19
    go_wp2_with fail
    obtain ⟨V, hV⟩ : ∃ V, V = w.alloc (Obj.cells #[.string c.issuer, .int .i64 c.num, .int .i64 c.ths, .int .i64 c.nxt, .int .i64 c.bas, .slice pa c.revs.length pc, .string c.sig] 39) := ⟨_, rfl⟩
    rw [← hV]
    have G : Hid (Blk V w.heap.size 39 #[.string c.issuer, .int .i64 c.num, .int .i64 c.ths, .int .i64 c.nxt, .int .i64 c.bas, .slice pa c.revs.length pc, .string c.sig] ∧ Below w.heap.size w V) := by rw [hV]; exact ⟨Blk.new w _ _, (Below.refl _ _).alloc (Nat.le_refl _) _⟩
    have hsz : w.heap.size < V.heap.size := G.out.1.lt
    clear hV
    refine (Z2.out V G.out.2).mono ?_
    rintro e V2 ⟨rfl, hb⟩
    have G2 : Hid (Blk V2 w.heap.size 39 #[.string c.issuer, .int .i64 c.num, .int .i64 c.ths, .int .i64 c.nxt, .int .i64 c.bas, .slice pa c.revs.length pc, .string c.sig] ∧ Below w.heap.size w V2) := ⟨G.out.1.below hb hsz, G.out.2.trans (hb.mono G.out.2.size)⟩
    clear hb G hsz
    go_wp2_with fail
    go_ret
    exact ⟨by rw [HF.out]; rfl, G2.out.2⟩
  have hq2 : r2 = r1 - (c.revs.length : Int) := by split at hr2 <;> omega
  clear hr2
  have hr2 := hq2
  clear hq2
  obtain ⟨r3, hr3⟩ : ∃ r : Int, r = r2 - (c.sig.size : Int) := ⟨_, rfl⟩
  have wr3 : IntKind.i64.wrap (r2 - (c.sig.size : Int)) = r3 := by rw [IntKind.wrap_i64]; omega
  by_cases g3 : r3 < 0
  · have HF : Hid (szL c left = -1) := by show szL c left = _; have hw := HW.out; unfold szL; rw [if_neg (by omega)]
    clear HW hr1 hr2 hr3
    go_enter Try.func19, Try.ntmps19
    go_wp2_with fail
    obtain ⟨V, hV⟩ : ∃ V, V = w.alloc (Obj.cells #[.string c.issuer, .int .i64 c.num, .int .i64 c.ths, .int .i64 c.nxt, .int .i64 c.bas, .slice pa c.revs.length pc, .string c.sig] 39) := ⟨_, rfl⟩
    rw [← hV]
    have G : Hid (Blk V w.heap.size 39 #[.string c.issuer, .int .i64 c.num, .int .i64 c.ths, .int .i64 c.nxt, .int .i64 c.bas, .slice pa c.revs.length pc, .string c.sig] ∧ Below w.heap.size w V) := by rw [hV]; exact ⟨Blk.new w _ _, (Below.refl _ _).alloc (Nat.le_refl _) _⟩
    have hsz : w.heap.size < V.heap.size := G.out.1.lt
    clear hV
    refine (Z2.out V G.out.2).mono ?_
    rintro e V2 ⟨rfl, hb⟩
    have G2 : Hid (Blk V2 w.heap.size 39 #[.string c.issuer, .int .i64 c.num, .int .i64 c.ths, .int .i64 c.nxt, .int .i64 c.bas, .slice pa c.revs.length pc, .string c.sig] ∧ Below w.heap.size w V2) := ⟨G.out.1.below hb hsz, G.out.2.trans (hb.mono G.out.2.size)⟩
    clear hb G hsz
    have ca : V2.cell? ⟨w.heap.size, 6, none⟩ = some (.string c.sig) := G2.out.1.cell 6
    go_wp2_with fail
    go_ret
    exact ⟨by rw [HF.out]; rfl, G2.out.2⟩
  have HF : Hid (szL c left = r3) := by show szL c left = _; have hw := HW.out; unfold szL; rw [if_pos (by omega)]; omega
  clear HW hr1 hr2 hr3
  go_enter Try.func19, Try.ntmps19
  go_wp2_with fail
  obtain ⟨V, hV⟩ : ∃ V, V = w.alloc (Obj.cells #[.string c.issuer, .int .i64 c.num, .int .i64 c.ths, .int .i64 c.nxt, .int .i64 c.bas, .slice pa c.revs.length pc, .string c.sig] 39) := ⟨_, rfl⟩
  rw [← hV]
  have G : Hid (Blk V w.heap.size 39 #[.string c.issuer, .int .i64 c.num, .int .i64 c.ths, .int .i64 c.nxt, .int .i64 c.bas, .slice pa c.revs.length pc, .string c.sig] ∧ Below w.heap.size w V) := by rw [hV]; exact ⟨Blk.new w _ _, (Below.refl _ _).alloc (Nat.le_refl _) _⟩
  have hsz : w.heap.size < V.heap.size := G.out.1.lt
  clear hV
  refine (Z2.out V G.out.2).mono ?_
  rintro e V2 ⟨rfl, hb⟩
  have G2 : Hid (Blk V2 w.heap.size 39 #[.string c.issuer, .int .i64 c.num, .int .i64 c.ths, .int .i64 c.nxt, .int .i64 c.bas, .slice pa c.revs.length pc, .string c.sig] ∧ Below w.heap.size w V2) := ⟨G.out.1.below hb hsz, G.out.2.trans (hb.mono G.out.2.size)⟩
  clear hb G hsz
  have ca : V2.cell? ⟨w.heap.size, 6, none⟩ = some (.string c.sig) := G2.out.1.cell 6
  go_wp2_with fail
  go_ret
  exact ⟨by rw [HF.out]; rfl, G2.out.2⟩
set_option maxHeartbeats 6400000 in
set_option maxRecDepth 100000 in
theorem eqCrl_same (c : Cl) (a b : Value) (w : World) (hl : c.revs.length ≤ 1000000000) (ha : ClAt w a c) (hb : ClAt w b c) :
    Calls Try.prog 23 #[a, b] w fun e w' => e = .returned (.bool true) ∧ Below w.heap.size w w' := by
  obtain ⟨pv, rfl, h1⟩ := ha
  obtain ⟨pu, rfl, k1⟩ := hb
  have HQ : Hid (∀ W, Below w.heap.size w W → Calls Try.prog 66 #[pv, pu] W (fun e w' => e = .returned (.bool true) ∧ Below W.heap.size W w')) := fun W hb => eqRevS_same pv pu c.revs W hl (h1.below hb) (k1.below hb)
  obtain ⟨lp, hlp⟩ : ∃ l, c.revs.length = l := ⟨_, rfl⟩
  obtain ⟨pa, pc, hpa, _⟩ := h1
  obtain ⟨pb, qc, hpb, _⟩ := k1
  rw [hlp] at hpa hpb
  subst hpa hpb
  clear hlp hl
  unfold clV
  go_enter Try.func23, Try.ntmps23
  go_wp2_with fail
  obtain ⟨V, hV⟩ : ∃ V, V = (w.alloc (Obj.cells #[.string c.issuer, .int .i64 c.num, .int .i64 c.ths, .int .i64 c.nxt, .int .i64 c.bas, .slice pa lp pc, .string c.sig] 44)).alloc (Obj.cells #[.string c.issuer, .int .i64 c.num, .int .i64 c.ths, .int .i64 c.nxt, .int .i64 c.bas, .slice pb lp qc, .string c.sig] 44) := ⟨_, rfl⟩
  rw [← hV]
  have G : Hid (Blk V w.heap.size 44 #[.string c.issuer, .int .i64 c.num, .int .i64 c.ths, .int .i64 c.nxt, .int .i64 c.bas, .slice pa lp pc, .string c.sig] ∧ Blk V (w.heap.size + 1) 44 #[.string c.issuer, .int .i64 c.num, .int .i64 c.ths, .int .i64 c.nxt, .int .i64 c.bas, .slice pb lp qc, .string c.sig] ∧ Below w.heap.size w V ∧ w.heap.size + 1 < V.heap.size) := by
    have e0 : (w.alloc (Obj.cells #[.string c.issuer, .int .i64 c.num, .int .i64 c.ths, .int .i64 c.nxt, .int .i64 c.bas, .slice pa lp pc, .string c.sig] 44)).heap.size = w.heap.size + 1 := Array.size_push _
    have h := Blk.new (w.alloc (Obj.cells #[.string c.issuer, .int .i64 c.num, .int .i64 c.ths, .int .i64 c.nxt, .int .i64 c.bas, .slice pa lp pc, .string c.sig] 44)) 44 #[.string c.issuer, .int .i64 c.num, .int .i64 c.ths, .int .i64 c.nxt, .int .i64 c.bas, .slice pb lp qc, .string c.sig]
    rw [e0] at h
    rw [hV]
    exact ⟨(Blk.new w _ _).alloc _, h, ((Below.refl _ _).alloc (Nat.le_refl _) _).alloc (by rw [e0]; omega) _, by rw [size_alloc, e0]; omega⟩
  clear hV
  refine (HQ.out V G.out.2.2.1).mono ?_
  rintro e V2 ⟨rfl, hb⟩
  have G2 : Hid (Blk V2 w.heap.size 44 #[.string c.issuer, .int .i64 c.num, .int .i64 c.ths, .int .i64 c.nxt, .int .i64 c.bas, .slice pa lp pc, .string c.sig] ∧ Blk V2 (w.heap.size + 1) 44 #[.string c.issuer, .int .i64 c.num, .int .i64 c.ths, .int .i64 c.nxt, .int .i64 c.bas, .slice pb lp qc, .string c.sig] ∧ Below w.heap.size w V2 ∧ w.heap.size + 1 < V2.heap.size) := ⟨G.out.1.below hb (by have := G.out.2.2.2; omega), G.out.2.1.below hb G.out.2.2.2, G.out.2.2.1.trans (hb.mono G.out.2.2.1.size), Nat.lt_of_lt_of_le G.out.2.2.2 hb.size⟩
  clear hb G
  have ca : V2.cell? ⟨w.heap.size, 6, none⟩ = some (.string c.sig) := G2.out.1.cell 6
  have cb : V2.cell? ⟨w.heap.size + 1, 6, none⟩ = some (.string c.sig) := G2.out.2.1.cell 6
  go_wp2_with fail
  go_ret
  exact ⟨rfl, G2.out.2.2.1⟩
/-- A list whose row is marked from k on. -/
def mkL (k : Nat) (c : Cl) : Cl := { c with revs := marksR k c.revs.length }
/-- The block that a list's row takes. -/
def fpL (v : Value) : List Nat := match v with
  | .agg a => (a.getD 5 (.slice none 0 0)).ownBlock.toList
  | _ => []
theorem fpL_mem {c : Cl} {p : Value} {g : Nat} : g ∈ fpL (clV c p) ↔ p.ownBlock = some g := by
  show g ∈ p.ownBlock.toList ↔ _
  simp [Option.mem_toList]
theorem fpL_lt {w : World} {base : Nat} {v : Value} {c : Cl} (h : OwnL w base v c) : ∀ b ∈ fpL v, base ≤ b ∧ b < w.heap.size := by
  obtain ⟨p, rfl, h1⟩ := h
  intro b hb
  exact World.ownsRow.lt h1 b (fpL_mem.1 hb)
theorem OwnL.out {w w' : World} {base : Nat} {v : Value} {c : Cl} {fp : List Nat} (h : OwnL w base v c) (ho : Out fp w w') (hn : ∀ b ∈ fpL v, b ∉ fp) : OwnL w' base v c := by
  obtain ⟨p, rfl, h1⟩ := h
  exact ⟨p, rfl, ho.row (fun g hg => hn g (fpL_mem.2 hg)) h1⟩
set_option maxHeartbeats 3200000 in
set_option maxRecDepth 100000 in
theorem markCrl_out (c : Cl) (v : Value) (k base : Nat) (w : World) (hl : c.revs.length ≤ 20000000) (hk : k ≤ 100000000) (ha : OwnL w base v c) :
    Calls Try.prog 30 #[v, .int .i64 k] w fun e w' => e = .returned (.int .i64 (((k + 2 * c.revs.length : Nat)) : Int)) ∧ OwnL w' base v (mkL k c) ∧ Out (fpL v) w w' := by
  obtain ⟨p, rfl, h1⟩ := ha
  obtain ⟨ap, cp, hp⟩ : ∃ ao cap, p = .slice ao c.revs.length cap := by obtain ⟨ao, cap, h, _⟩ := h1.at; exact ⟨ao, cap, h⟩
  obtain ⟨lp, hlp⟩ : ∃ l, c.revs.length = l := ⟨_, rfl⟩
  rw [hlp] at hp
  subst hp
  have HB : Hid (∀ g, (Value.slice ap lp cp).ownBlock = some g → g < w.heap.size) := fun g hg => (World.ownsRow.lt h1 g hg).2
  have HA : Hid (OwnR w base (.slice ap lp cp) c.revs ∧ c.revs.length = lp) := ⟨h1, hlp⟩
  rw [hlp] at hl
  have hm : mkL k c = { c with revs := marksR k lp } := by unfold mkL; rw [hlp]
  rw [hm, hlp]
  clear h1 hm hlp
  unfold clV
  go_enter Try.func30, Try.ntmps30
  go_wp2_with fail
  obtain ⟨V, hV⟩ : ∃ V, V = w.alloc (Obj.cells #[.string c.issuer, .int .i64 c.num, .int .i64 c.ths, .int .i64 c.nxt, .int .i64 c.bas, .slice ap lp cp, .string c.sig] 44) := ⟨_, rfl⟩
  rw [← hV]
  have G : Hid (Out (fpL (clV c (.slice ap lp cp))) w V ∧ OwnR V base (.slice ap lp cp) c.revs) := by
    have hb : Below w.heap.size w V := by rw [hV]; exact (Below.refl _ _).alloc (Nat.le_refl _) _
    exact ⟨Out.of_below hb, HA.out.1.stays hb⟩
  clear hV
  have E0 := markR_any (.slice ap lp cp) c.revs k base V (by rw [HA.out.2]; omega) (by omega) G.out.2
  rw [HA.out.2] at E0
  refine E0.mono ?_
  rintro r u0 ⟨rfl, ho, hg⟩
  have G0 : Hid (Out (fpL (clV c (.slice ap lp cp))) w u0 ∧ OwnR u0 base (.slice ap lp cp) (marksR k lp)) := ⟨G.out.1.grown hg (fun q hq => fpL_mem.2 hq), ho⟩
  clear ho hg G E0
  obtain ⟨KK, hKK⟩ : ∃ K : Int, ((k + 2 * lp : Nat) : Int) = K := ⟨_, rfl⟩
  rw [hKK]
  have HKK : Hid (((k + 2 * lp : Nat) : Int) = KK) := hKK
  clear hKK
  go_wp2_with fail
  go_ret
  exact ⟨by rw [HKK.out]; rfl, ⟨_, rfl, G0.out.2⟩, G0.out.1⟩
set_option maxHeartbeats 3200000 in
set_option maxRecDepth 100000 in
theorem heldCrl_same (c : Cl) (v : Value) (k : Nat) (w : World) (hl : c.revs.length ≤ 20000000) (hk : k ≤ 100000000) (ha : ClAt w v (mkL k c)) :
    Calls Try.prog 31 #[v, .int .i64 k] w fun e w' => e = .returned (.int .i64 (((k + 2 * c.revs.length : Nat)) : Int)) ∧ Below w.heap.size w w' := by
  obtain ⟨p, rfl, h1⟩ := ha
  change RevAt w p (marksR k c.revs.length) at h1
  obtain ⟨ap, cp, hp⟩ : ∃ ao cap, p = .slice ao c.revs.length cap := by obtain ⟨ao, cap, h, _⟩ := h1; exact ⟨ao, cap, by rw [marksR_len] at h; exact h⟩
  obtain ⟨lp, hlp⟩ : ∃ l, c.revs.length = l := ⟨_, rfl⟩
  rw [hlp] at hp
  subst hp
  rw [hlp] at h1 hl ⊢
  obtain ⟨KK, hKK⟩ : ∃ K : Int, ((k + 2 * lp : Nat) : Int) = K := ⟨_, rfl⟩
  have hK0 : ¬ KK < 0 := by omega
  have HQ : Hid (∀ W, Below w.heap.size w W → Calls Try.prog 72 #[.slice ap lp cp, .int .i64 (k : Int)] W (fun e w' => e = .returned (.int .i64 KK) ∧ Below W.heap.size W w')) := fun W hb => by rw [← hKK]; exact heldR_same _ lp k W (by omega) (by omega) (h1.below hb)
  rw [hKK]
  clear h1 hlp hKK
  show Calls Try.prog 31 #[clV c (.slice ap lp cp), .int .i64 k] w _
  unfold clV
  go_enter Try.func31, Try.ntmps31
  go_wp2_with fail
  obtain ⟨V, hV⟩ : ∃ V, V = w.alloc (Obj.cells #[.string c.issuer, .int .i64 c.num, .int .i64 c.ths, .int .i64 c.nxt, .int .i64 c.bas, .slice ap lp cp, .string c.sig] 44) := ⟨_, rfl⟩
  rw [← hV]
  have G : Hid (Below w.heap.size w V) := by rw [hV]; exact (Below.refl _ _).alloc (Nat.le_refl _) _
  clear hV
  refine (HQ.out V G.out).mono ?_
  rintro r u0 ⟨rfl, hb⟩
  have G0 : Hid (Below w.heap.size w u0) := G.out.trans (hb.mono G.out.size)
  clear hb G
  go_wp2_with fail
  go_ret
  exact ⟨rfl, G0.out⟩
end Go.Proofs.Ytajbalokcfghbaa
