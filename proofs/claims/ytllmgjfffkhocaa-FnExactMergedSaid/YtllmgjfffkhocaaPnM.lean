/-
  The laws' markPlan.
-/
import Derived.Test.YtllmgjfffkhocaaPnA
import Derived.Test.YtllmgjfffkhocaaRuM
namespace Go.Proofs.Ytllmgjfffkhocaa
open Go.RowKit
set_option linter.unusedVariables false

/-- A plan whose rows are marked from k on. -/
def mkPn (k : Nat) (c : Pn) : Pn := { c with anc := marksI k c.anc.length, ru := mkRu (k + c.anc.length) c.ru }
theorem OwnPn.out {w w' : World} {base : Nat} {v : Value} {c : Pn} {fp : List Nat} (h : OwnPn w base v c) (ho : Out fp w w') (hn : ∀ b ∈ fpPn v, b ∉ fp) : OwnPn w' base v c := h.same fun g hg => by
  have := fpPn_lt h g hg
  exact ho.2.2.2.2 g this.2 (hn g hg)
theorem Out.sub {fp fq : List Nat} {w w' : World} (h : Out fp w w') (hs : ∀ b ∈ fp, b ∈ fq) : Out fq w w' := ⟨h.1, h.2.1, h.2.2.1, h.2.2.2.1, fun k hk hn => h.2.2.2.2 k hk fun hm => hn (hs k hm)⟩
set_option maxHeartbeats 3200000 in
set_option maxRecDepth 100000 in
theorem markPlan_out (c : Pn) (v : Value) (k base : Nat) (w : World) (hl : c.anc.length ≤ 20000000 ∧ c.ru.pol.length ≤ 20000000) (hk1 : 1 ≤ k) (hk : k ≤ 50000000) (ha : OwnPn w base v c) :
    Calls Try.prog 26 #[v, .int .i64 k] w fun e w' => e = .returned (.int .i64 (((k + c.anc.length + c.ru.pol.length : Nat)) : Int)) ∧ OwnPn w' base v (mkPn k c) ∧ Out (fpPn v) w w' := by
  obtain ⟨p, e, rfl, h1, h2, h3⟩ := ha
  obtain ⟨ap, cp, hp⟩ : ∃ ao cap, p = .slice ao c.anc.length cap := by obtain ⟨ao, cap, h, _⟩ := h1.at; exact ⟨ao, cap, h⟩
  obtain ⟨ae, ce, he⟩ : ∃ ao cap, e = .slice ao c.ru.pol.length cap := by obtain ⟨ao, cap, h, _⟩ := h2.at; exact ⟨ao, cap, h⟩
  obtain ⟨lp, hlp⟩ : ∃ l, c.anc.length = l := ⟨_, rfl⟩
  obtain ⟨le, hle⟩ : ∃ l, c.ru.pol.length = l := ⟨_, rfl⟩
  rw [hlp] at hp
  rw [hle] at he
  subst hp he
  have HB : Hid (∀ g, (Value.slice ap lp cp).ownBlock = some g → g < w.heap.size) := fun g hg => (World.ownsRow.lt h1 g hg).2
  have HA : Hid (OwnI w base (.slice ap lp cp) c.anc ∧ OwnI w base (.slice ae le ce) c.ru.pol ∧ (Ap (.slice ap lp cp) (.slice ae le ce) ∧ Ap (.slice ae le ce) (.slice ap lp cp)) ∧ c.anc.length = lp ∧ c.ru.pol.length = le) := ⟨h1, h2, h3, hlp, hle⟩
  rw [hlp, hle] at hl
  have HM : Hid (mkPn k c = { c with anc := marksI k lp, ru := mkRu (k + lp) c.ru }) := by show mkPn k c = _; unfold mkPn; rw [hlp]
  rw [hlp, hle]
  clear h1 h2 h3 hlp hle
  obtain ⟨KK, hKK⟩ : ∃ K : Nat, k + lp = K := ⟨_, rfl⟩
  rw [hKK] at HM ⊢
  have hKb : 1 ≤ KK ∧ KK ≤ 100000000 := by omega
  unfold pnV
  go_enter Try.func26, Try.ntmps26
  go_wp2_with fail
  obtain ⟨V, hV⟩ : ∃ V, V = w.alloc (Obj.cells #[.int .i64 c.id, .slice ap lp cp, .int .i64 c.ru.time, .slice ae le ce, .bool c.ru.expl, .bool c.ru.chk, .int .i64 c.ru.usage] 57) := ⟨_, rfl⟩
  rw [← hV]
  have G : Hid (Out (fpPn (pnV c (.slice ap lp cp) (.slice ae le ce))) w V ∧ OwnI V base (.slice ap lp cp) c.anc ∧ OwnI V base (.slice ae le ce) c.ru.pol ∧ Blk V w.heap.size 57 #[.int .i64 c.id, .slice ap lp cp, .int .i64 c.ru.time, .slice ae le ce, .bool c.ru.expl, .bool c.ru.chk, .int .i64 c.ru.usage]) := by
    have hb : Below w.heap.size w V := by rw [hV]; exact (Below.refl _ _).alloc (Nat.le_refl _) _
    exact ⟨Out.of_below hb, HA.out.1.stays hb, HA.out.2.1.stays hb, by rw [hV]; exact Blk.new w _ _⟩
  clear hV
  have E0 := mark_any (.slice ap lp cp) c.anc k base V (by rw [HA.out.2.2.2.1]; omega) (by omega) G.out.2.1
  rw [HA.out.2.2.2.1] at E0
  refine E0.mono ?_
  rintro r u0 ⟨rfl, ho, hg⟩
  have G0 : Hid (Out (fpPn (pnV c (.slice ap lp cp) (.slice ae le ce))) w u0 ∧ OwnI u0 base (.slice ap lp cp) (marksI k lp) ∧ OwnI u0 base (.slice ae le ce) c.ru.pol ∧ Blk u0 w.heap.size 57 #[.int .i64 c.id, .slice ap lp cp, .int .i64 c.ru.time, .slice ae le ce, .bool c.ru.expl, .bool c.ru.chk, .int .i64 c.ru.usage]) :=
    ⟨G.out.1.grown hg (fun q hq => fpPn_mem.2 (.inl hq)), ho, World.ownsRow.kept G.out.2.2.1 hg HA.out.2.2.1.2, (hg.block _ G.out.2.2.2.lt (fun e => by have := HB.out _ e.symm; omega)).trans G.out.2.2.2⟩
  clear ho hg G E0
  have c2 : u0.cell? ⟨w.heap.size, 2, none⟩ = some (.int .i64 c.ru.time) := G0.out.2.2.2.cell 2
  have c3 : u0.cell? ⟨w.heap.size, 3, none⟩ = some (.slice ae le ce) := G0.out.2.2.2.cell 3
  have c4 : u0.cell? ⟨w.heap.size, 4, none⟩ = some (.bool c.ru.expl) := G0.out.2.2.2.cell 4
  have c5 : u0.cell? ⟨w.heap.size, 5, none⟩ = some (.bool c.ru.chk) := G0.out.2.2.2.cell 5
  have c6 : u0.cell? ⟨w.heap.size, 6, none⟩ = some (.int .i64 c.ru.usage) := G0.out.2.2.2.cell 6
  have E1 := markRules_out c.ru (.agg #[.int .i64 c.ru.time, .slice ae le ce, .bool c.ru.expl, .bool c.ru.chk, .int .i64 c.ru.usage]) KK base u0 (by rw [HA.out.2.2.2.2]; omega) hKb.1 hKb.2 ⟨_, rfl, G0.out.2.2.1⟩
  rw [HA.out.2.2.2.2] at E1
  have hkk : ((k : Int) + (lp : Int)) = (KK : Int) := by omega
  try rw [hkk]
  go_wp2_with fail
  try rw [hkk]
  clear c2 c3 c4 c5 c6
  refine E1.mono ?_
  rintro r u1 ⟨rfl, ⟨e', he', ho2⟩, hout⟩
  have hee : e' = .slice ae le ce := by
    unfold ruV at he'
    injection he' with he'
    have := congrArg (·[1]?) he'
    simpa using this.symm
  subst hee
  have hsub : ∀ b, b ∈ fpRu (.agg #[.int .i64 c.ru.time, .slice ae le ce, .bool c.ru.expl, .bool c.ru.chk, .int .i64 c.ru.usage]) → b ∈ fpPn (pnV c (.slice ap lp cp) (.slice ae le ce)) := fun b hb => fpPn_mem.2 (.inr ((fpRu_mem (c := c.ru)).1 hb))
  have G1 : Hid (Out (fpPn (pnV c (.slice ap lp cp) (.slice ae le ce))) w u1 ∧ OwnI u1 base (.slice ap lp cp) (marksI k lp) ∧ OwnI u1 base (.slice ae le ce) (mkRu KK c.ru).pol) := by
    refine ⟨G0.out.1.trans (hout.sub hsub), row_same G0.out.2.1 (fun b hb => hout.2.2.2.2 b (World.ownsRow.lt G0.out.2.1 b hb).2 fun hm => ?_), ho2⟩
    exact ap_ne HA.out.2.2.1.1 hb ((fpRu_mem (c := c.ru)).1 hm)
  clear hout ho2 he' hsub G0 E1
  go_wp2_with fail
  go_ret
  refine ⟨rfl, ?_, G1.out.1⟩
  rw [HM.out]
  exact ⟨_, _, rfl, G1.out.2.1, G1.out.2.2, HA.out.2.2.1⟩
end Go.Proofs.Ytllmgjfffkhocaa
