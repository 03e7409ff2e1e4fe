/-
  The laws' markAsk, heldAsk.
-/
import Derived.Test.YtbiiihjohbnodaaAkA
import Derived.Test.YtbiiihjohbnodaaCrJ
namespace Go.Proofs.Ytbiiihjohbnodaa
open Go.RowKit
set_option linter.unusedVariables false

/-- A question whose row is marked from k on. -/
def mkAk (k : Nat) (c : Ak) : Ak := { c with tg := marksT k c.tg.length }
/-- The block that a question's row takes. -/
def fpAk (v : Value) : List Nat := match v with
  | .agg a => (a.getD 0 (.slice none 0 0)).ownBlock.toList
  | _ => []
theorem fpAk_mem {c : Ak} {p : Value} {g : Nat} : g ∈ fpAk (akV c p) ↔ p.ownBlock = some g := by
  show g ∈ p.ownBlock.toList ↔ _
  simp [Option.mem_toList]
theorem fpAk_lt {w : World} {base : Nat} {v : Value} {c : Ak} (h : OwnAk w base v c) : ∀ b ∈ fpAk v, base ≤ b ∧ b < w.heap.size := by
  obtain ⟨p, rfl, h1⟩ := h
  intro b hb
  exact World.ownsRow.lt h1 b (fpAk_mem.1 hb)
theorem OwnAk.out {w w' : World} {base : Nat} {v : Value} {c : Ak} {fp : List Nat} (h : OwnAk w base v c) (ho : Out fp w w') (hn : ∀ b ∈ fpAk v, b ∉ fp) : OwnAk w' base v c := by
  obtain ⟨p, rfl, h1⟩ := h
  exact ⟨p, rfl, ho.row (fun g hg => hn g (fpAk_mem.2 hg)) h1⟩
set_option maxHeartbeats 3200000 in
set_option maxRecDepth 100000 in
theorem markAsk_out (c : Ak) (v : Value) (k base : Nat) (w : World) (hl : c.tg.length ≤ 20000000) (hk1 : 1 ≤ k) (hk : k ≤ 100000000) (ha : OwnAk w base v c) :
    Calls Try.prog 20 #[v, .int .i64 k] w fun e w' => e = .returned (.int .i64 (((k + c.tg.length : Nat)) : Int)) ∧ OwnAk w' base v (mkAk k c) ∧ Out (fpAk v) w w' := by
  obtain ⟨p, rfl, h1⟩ := ha
  obtain ⟨ap, cp, hp⟩ : ∃ ao cap, p = .slice ao c.tg.length cap := by obtain ⟨ao, cap, h, _⟩ := h1.at; exact ⟨ao, cap, h⟩
  obtain ⟨lp, hlp⟩ : ∃ l, c.tg.length = l := ⟨_, rfl⟩
  rw [hlp] at hp
  subst hp
  have HB : Hid (∀ g, (Value.slice ap lp cp).ownBlock = some g → g < w.heap.size) := fun g hg => (World.ownsRow.lt h1 g hg).2
  have HA : Hid (OwnT w base (.slice ap lp cp) c.tg ∧ c.tg.length = lp) := ⟨h1, hlp⟩
  rw [hlp] at hl
  have hm : mkAk k c = { c with tg := marksT k lp } := by unfold mkAk; rw [hlp]
  rw [hm, hlp]
  clear h1 hm hlp
  unfold akV
  go_enter Try.func20, Try.ntmps20
  go_wp2_with fail
  obtain ⟨V, hV⟩ : ∃ V, V = w.alloc (Obj.cells #[.slice ap lp cp, .int .i64 c.plan, .int .i64 c.want, .int .i64 c.nonce, .int .i64 c.time, .bool c.cac] 27) := ⟨_, rfl⟩
  rw [← hV]
  have G : Hid (Out (fpAk (akV c (.slice ap lp cp))) w V ∧ OwnT V base (.slice ap lp cp) c.tg) := by
    have hb : Below w.heap.size w V := by rw [hV]; exact (Below.refl _ _).alloc (Nat.le_refl _) _
    exact ⟨Out.of_below hb, HA.out.1.stays hb⟩
  clear hV
  have E0 := markT_any (.slice ap lp cp) c.tg k base V (by rw [HA.out.2]; omega) hk1 (by omega) G.out.2
  rw [HA.out.2] at E0
  refine E0.mono ?_
  rintro r u0 ⟨rfl, ho, hg⟩
  have G0 : Hid (Out (fpAk (akV c (.slice ap lp cp))) w u0 ∧ OwnT u0 base (.slice ap lp cp) (marksT k lp)) := ⟨G.out.1.grown hg (fun q hq => fpAk_mem.2 hq), ho⟩
  clear ho hg G E0
  go_wp2_with fail
  go_ret
  exact ⟨by rw [Int.natCast_add]; rfl, ⟨_, rfl, G0.out.2⟩, G0.out.1⟩
set_option maxHeartbeats 3200000 in
set_option maxRecDepth 100000 in
theorem heldAsk_same (c : Ak) (v : Value) (k : Nat) (w : World) (hl : c.tg.length ≤ 20000000) (hk1 : 1 ≤ k) (hk : k ≤ 100000000) (ha : AkAt w v (mkAk k c)) :
    Calls Try.prog 21 #[v, .int .i64 k] w fun e w' => e = .returned (.int .i64 (((k + c.tg.length : Nat)) : Int)) ∧ Below w.heap.size w w' := by
  obtain ⟨p, rfl, h1⟩ := ha
  change TxtAt w p (marksT k c.tg.length) at h1
  obtain ⟨ap, cp, hp⟩ : ∃ ao cap, p = .slice ao c.tg.length cap := by obtain ⟨ao, cap, h, _⟩ := h1; exact ⟨ao, cap, by rw [marksT_len] at h; exact h⟩
  obtain ⟨lp, hlp⟩ : ∃ l, c.tg.length = l := ⟨_, rfl⟩
  rw [hlp] at hp
  subst hp
  rw [hlp] at h1 hl ⊢
  obtain ⟨KK, hKK⟩ : ∃ K : Int, ((k + lp : Nat) : Int) = K := ⟨_, rfl⟩
  have hK0 : ¬ KK < 0 := by omega
  have HQ : Hid (∀ W, Below w.heap.size w W → Calls Try.prog 60 #[.slice ap lp cp, .int .i64 (k : Int)] W (fun e w' => e = .returned (.int .i64 KK) ∧ Below W.heap.size W w')) := fun W hb => by rw [← hKK, Int.natCast_add]; exact heldT_same _ lp k W (by omega) hk1 (by omega) (h1.below hb)
  rw [hKK]
  clear h1 hlp hKK
  show Calls Try.prog 21 #[akV c (.slice ap lp cp), .int .i64 k] w _
  unfold akV
  go_enter Try.func21, Try.ntmps21
  go_wp2_with fail
  obtain ⟨V, hV⟩ : ∃ V, V = w.alloc (Obj.cells #[.slice ap lp cp, .int .i64 c.plan, .int .i64 c.want, .int .i64 c.nonce, .int .i64 c.time, .bool c.cac] 27) := ⟨_, rfl⟩
  rw [← hV]
  have G : Hid (Below w.heap.size w V) := by rw [hV]; exact (Below.refl _ _).alloc (Nat.le_refl _) _
  clear hV
  refine (HQ.out V G.out).mono ?_
  rintro r u0 ⟨rfl, hb⟩
  have G0 : Hid (Below w.heap.size w u0) := G.out.trans (hb.mono G.out.size)
  clear hb G
  go_wp2_with fail
  go_ret
  exact ⟨rfl, G0.out⟩
end Go.Proofs.Ytbiiihjohbnodaa
