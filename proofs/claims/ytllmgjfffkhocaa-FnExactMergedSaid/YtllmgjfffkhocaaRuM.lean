/-
  The laws' markRules, heldRules.
-/
import Derived.Test.YtllmgjfffkhocaaRuA
import Derived.Test.YtllmgjfffkhocaaCrJ
namespace Go.Proofs.Ytllmgjfffkhocaa
open Go.RowKit
set_option linter.unusedVariables false

/-- Rules whose row is marked from k on. -/
def mkRu (k : Nat) (c : Ru) : Ru := { c with pol := marksI k c.pol.length }
/-- The block that of rules row takes. -/
def fpRu (v : Value) : List Nat := match v with
  | .agg a => (a.getD 1 (.slice none 0 0)).ownBlock.toList
  | _ => []
theorem fpRu_mem {c : Ru} {p : Value} {g : Nat} : g ∈ fpRu (ruV c p) ↔ p.ownBlock = some g := by
  show g ∈ p.ownBlock.toList ↔ _
  simp [Option.mem_toList]
theorem fpRu_lt {w : World} {base : Nat} {v : Value} {c : Ru} (h : OwnU w base v c) : ∀ b ∈ fpRu v, base ≤ b ∧ b < w.heap.size := by
  obtain ⟨p, rfl, h1⟩ := h
  intro b hb
  exact World.ownsRow.lt h1 b (fpRu_mem.1 hb)
theorem OwnU.out {w w' : World} {base : Nat} {v : Value} {c : Ru} {fp : List Nat} (h : OwnU w base v c) (ho : Out fp w w') (hn : ∀ b ∈ fpRu v, b ∉ fp) : OwnU w' base v c := by
  obtain ⟨p, rfl, h1⟩ := h
  exact ⟨p, rfl, ho.row (fun g hg => hn g (fpRu_mem.2 hg)) h1⟩
set_option maxHeartbeats 3200000 in
set_option maxRecDepth 100000 in
theorem markRules_out (c : Ru) (v : Value) (k base : Nat) (w : World) (hl : c.pol.length ≤ 20000000) (hk1 : 1 ≤ k) (hk : k ≤ 100000000) (ha : OwnU w base v c) :
    Calls Try.prog 28 #[v, .int .i64 k] w fun e w' => e = .returned (.int .i64 (((k + c.pol.length : Nat)) : Int)) ∧ OwnU w' base v (mkRu k c) ∧ Out (fpRu v) w w' := by
  obtain ⟨p, rfl, h1⟩ := ha
  obtain ⟨ap, cp, hp⟩ : ∃ ao cap, p = .slice ao c.pol.length cap := by obtain ⟨ao, cap, h, _⟩ := h1.at; exact ⟨ao, cap, h⟩
  obtain ⟨lp, hlp⟩ : ∃ l, c.pol.length = l := ⟨_, rfl⟩
  rw [hlp] at hp
  subst hp
  have HB : Hid (∀ g, (Value.slice ap lp cp).ownBlock = some g → g < w.heap.size) := fun g hg => (World.ownsRow.lt h1 g hg).2
  have HA : Hid (OwnI w base (.slice ap lp cp) c.pol ∧ c.pol.length = lp) := ⟨h1, hlp⟩
  rw [hlp] at hl
  have hm : mkRu k c = { c with pol := marksI k lp } := by unfold mkRu; rw [hlp]
  rw [hm, hlp]
  clear h1 hm hlp
  unfold ruV
  go_enter Try.func28, Try.ntmps28
  go_wp2_with fail
  obtain ⟨V, hV⟩ : ∃ V, V = w.alloc (Obj.cells #[.int .i64 c.time, .slice ap lp cp, .bool c.expl, .bool c.chk, .int .i64 c.usage] 54) := ⟨_, rfl⟩
  rw [← hV]
  have G : Hid (Out (fpRu (ruV c (.slice ap lp cp))) w V ∧ OwnI V base (.slice ap lp cp) c.pol) := by
    have hb : Below w.heap.size w V := by rw [hV]; exact (Below.refl _ _).alloc (Nat.le_refl _) _
    exact ⟨Out.of_below hb, HA.out.1.stays hb⟩
  clear hV
  have E0 := mark_any (.slice ap lp cp) c.pol k base V (by rw [HA.out.2]; omega) (by omega) G.out.2
  rw [HA.out.2] at E0
  refine E0.mono ?_
  rintro r u0 ⟨rfl, ho, hg⟩
  have G0 : Hid (Out (fpRu (ruV c (.slice ap lp cp))) w u0 ∧ OwnI u0 base (.slice ap lp cp) (marksI k lp)) := ⟨G.out.1.grown hg (fun q hq => fpRu_mem.2 hq), ho⟩
  clear ho hg G E0
  go_wp2_with fail
  go_ret
  exact ⟨by rw [Int.natCast_add]; rfl, ⟨_, rfl, G0.out.2⟩, G0.out.1⟩
set_option maxHeartbeats 3200000 in
set_option maxRecDepth 100000 in
theorem heldRules_same (c : Ru) (v : Value) (k : Nat) (w : World) (hl : c.pol.length ≤ 20000000) (hk1 : 1 ≤ k) (hk : k ≤ 100000000) (ha : RuAt w v (mkRu k c)) :
    Calls Try.prog 29 #[v, .int .i64 k] w fun e w' => e = .returned (.int .i64 (((k + c.pol.length : Nat)) : Int)) ∧ Below w.heap.size w w' := by
  obtain ⟨p, rfl, h1⟩ := ha
  change IntAt w p (marksI k c.pol.length) at h1
  obtain ⟨ap, cp, hp⟩ : ∃ ao cap, p = .slice ao c.pol.length cap := by obtain ⟨ao, cap, h, _⟩ := h1; exact ⟨ao, cap, by rw [marksI_len] at h; exact h⟩
  obtain ⟨lp, hlp⟩ : ∃ l, c.pol.length = l := ⟨_, rfl⟩
  rw [hlp] at hp
  subst hp
  rw [hlp] at h1 hl ⊢
  obtain ⟨KK, hKK⟩ : ∃ K : Int, ((k + lp : Nat) : Int) = K := ⟨_, rfl⟩
  have hK0 : ¬ KK < 0 := by omega
  have HQ : Hid (∀ W, Below w.heap.size w W → Calls Try.prog 59 #[.slice ap lp cp, .int .i64 (k : Int)] W (fun e w' => e = .returned (.int .i64 KK) ∧ Below W.heap.size W w')) := fun W hb => by rw [← hKK, Int.natCast_add]; exact heldIntS_same _ lp k W (by omega) (by omega) (h1.below hb)
  rw [hKK]
  clear h1 hlp hKK
  show Calls Try.prog 29 #[ruV c (.slice ap lp cp), .int .i64 k] w _
  unfold ruV
  go_enter Try.func29, Try.ntmps29
  go_wp2_with fail
  obtain ⟨V, hV⟩ : ∃ V, V = w.alloc (Obj.cells #[.int .i64 c.time, .slice ap lp cp, .bool c.expl, .bool c.chk, .int .i64 c.usage] 54) := ⟨_, rfl⟩
  rw [← hV]
  have G : Hid (Below w.heap.size w V) := by rw [hV]; exact (Below.refl _ _).alloc (Nat.le_refl _) _
  clear hV
  refine (HQ.out V G.out).mono ?_
  rintro r u0 ⟨rfl, hb⟩
  have G0 : Hid (Below w.heap.size w u0) := G.out.trans (hb.mono G.out.size)
  clear hb G
  go_wp2_with fail
  go_ret
  exact ⟨rfl, G0.out⟩
end Go.Proofs.Ytllmgjfffkhocaa
