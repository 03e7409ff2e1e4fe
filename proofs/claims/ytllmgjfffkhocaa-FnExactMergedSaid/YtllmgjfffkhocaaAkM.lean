/-
  The laws' markAsk, heldAsk.
-/
import Derived.Test.YtllmgjfffkhocaaAkA
import Derived.Test.YtllmgjfffkhocaaCrJ
namespace Go.Proofs.Ytllmgjfffkhocaa
open Go.RowKit
set_option linter.unusedVariables false

/-- A question whose row is marked from k on. -/
def mkAk (k : Nat) (c : Ak) : Ak := { c with tg := marksT k c.tg.length }
/-- The block that a question's row takes. -/
def fpAk (v : Value) : List Nat := match v with
  | .agg a => (a.getD 0 (.slice none 0 0)).ownBlock.toList
  | _ => []
theorem fpAk_mem {c : Ak} {p : Value} {g : Nat} : g ∈ fpAk (akV c p) ↔ p.ownBlock = some g := by
  show g ∈ p.ownBlock.toList ↔ _
  simp [Option.mem_toList]
theorem fpAk_lt {w : World} {base : Nat} {v : Value} {c : Ak} (h : OwnAk w base v c) : ∀ b ∈ fpAk v, base ≤ b ∧ b < w.heap.size := by
  obtain ⟨p, rfl, h1⟩ := h
  intro b hb
  exact World.ownsRow.lt h1 b (fpAk_mem.1 hb)
theorem OwnAk.out {w w' : World} {base : Nat} {v : Value} {c : Ak} {fp : List Nat} (h : OwnAk w base v c) (ho : Out fp w w') (hn : ∀ b ∈ fpAk v, b ∉ fp) : OwnAk w' base v c := by
  obtain ⟨p, rfl, h1⟩ := h
  exact ⟨p, rfl, ho.row (fun g hg => hn g (fpAk_mem.2 hg)) h1⟩
set_option maxHeartbeats 3200000 in
set_option maxRecDepth 100000 in
theorem markAsk_out (c : Ak) (v : Value) (k base : Nat) (w : World) (hl : c.tg.length ≤ 20000000) (hk1 : 1 ≤ k) (hk : k ≤ 100000000) (ha : OwnAk w base v c) :
    Calls Try.prog 27 #[v, .int .i64 k] w fun e w' => e = .returned (.int .i64 (((k + c.tg.length : Nat)) : Int)) ∧ OwnAk w' base v (mkAk k c) ∧ Out (fpAk v) w w' := by
  obtain ⟨p, rfl, h1⟩ := ha
  obtain ⟨ap, cp, hp⟩ : ∃ ao cap, p = .slice ao c.tg.length cap := by obtain ⟨ao, cap, h, _⟩ := h1.at; exact ⟨ao, cap, h⟩
  obtain ⟨lp, hlp⟩ : ∃ l, c.tg.length = l := ⟨_, rfl⟩
  rw [hlp] at hp
  subst hp
  have HB : Hid (∀ g, (Value.slice ap lp cp).ownBlock = some g → g < w.heap.size) := fun g hg => (World.ownsRow.lt h1 g hg).2
  have HA : Hid (OwnT w base (.slice ap lp cp) c.tg ∧ c.tg.length = lp) := ⟨h1, hlp⟩
  rw [hlp] at hl
  have hm : mkAk k c = { c with tg := marksT k lp } := by unfold mkAk; rw [hlp]
  rw [hm, hlp]
  clear h1 hm hlp
  unfold akV
  go_enter Try.func27, Try.ntmps27
  go_wp2_with fail
  obtain ⟨V, hV⟩ : ∃ V, V = w.alloc (Obj.cells #[.slice ap lp cp, .int .i64 c.plan, .int .i64 c.want, .int .i64 c.nonce, .int .i64 c.time, .bool c.cac] 59) := ⟨_, rfl⟩
  rw [← hV]
  have G : Hid (Out (fpAk (akV c (.slice ap lp cp))) w V ∧ OwnT V base (.slice ap lp cp) c.tg) := by
    have hb : Below w.heap.size w V := by rw [hV]; exact (Below.refl _ _).alloc (Nat.le_refl _) _
    exact ⟨Out.of_below hb, HA.out.1.stays hb⟩
  clear hV
  have E0 := markT_any (.slice ap lp cp) c.tg k base V (by rw [HA.out.2]; omega) hk1 (by omega) G.out.2
  rw [HA.out.2] at E0
  refine E0.mono ?_
  rintro r u0 ⟨rfl, ho, hg⟩
  have G0 : Hid (Out (fpAk (akV c (.slice ap lp cp))) w u0 ∧ OwnT u0 base (.slice ap lp cp) (marksT k lp)) := ⟨G.out.1.grown hg (fun q hq => fpAk_mem.2 hq), ho⟩
  clear ho hg G E0
  go_wp2_with fail
  go_ret
  exact ⟨by rw [Int.natCast_add]; rfl, ⟨_, rfl, G0.out.2⟩, G0.out.1⟩
end Go.Proofs.Ytllmgjfffkhocaa
