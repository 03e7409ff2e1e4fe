/-
  A question: as data, in memory, of one's own, that came in.
-/
import Derived.Test.YtllmgjfffkhocaaCrA
import Derived.Test.YtllmgjfffkhocaaCrB
namespace Go.Proofs.Ytllmgjfffkhocaa
open Go.RowKit
set_option linter.unusedVariables false

/-- A question as data. -/
structure Ak where
  tg : List ByteArray
  plan : Int
  want : Int
  nonce : Int
  time : Int
  cac : Bool
/-- A question as a value, its row being told. -/
def akV (c : Ak) (p : Value) : Value := .agg #[p, .int .i64 c.plan, .int .i64 c.want, .int .i64 c.nonce, .int .i64 c.time, .bool c.cac]
/-- A question can be read at a value. -/
def AkAt (w : World) (v : Value) (c : Ak) : Prop := ∃ p, v = akV c p ∧ TxtAt w p c.tg
theorem AkAt.below {w w' : World} {v : Value} {c : Ak} (h : AkAt w v c) (hb : Below w.heap.size w w') : AkAt w' v c := by
  obtain ⟨p, hv, h1⟩ := h
  exact ⟨p, hv, h1.below hb⟩
theorem AkAt.shape {w : World} {v : Value} {c : Ak} (h : AkAt w v c) : ∃ p q, v = akV c (.slice p c.tg.length q) := by
  obtain ⟨pv, hv, ⟨p, q, h1, _⟩⟩ := h
  exact ⟨p, q, by rw [hv, h1]⟩
/-- A question whose row a call owns. -/
def OwnAk (w : World) (base : Nat) (v : Value) (c : Ak) : Prop := ∃ p, v = akV c p ∧ OwnT w base p c.tg
theorem OwnAk.at {w : World} {base : Nat} {v : Value} {c : Ak} (h : OwnAk w base v c) : AkAt w v c := by
  obtain ⟨p, hv, h1⟩ := h
  exact ⟨p, hv, h1.at⟩
theorem OwnAk.stays {w w' : World} {base : Nat} {v : Value} {c : Ak} (h : OwnAk w base v c) (hb : Below w.heap.size w w') : OwnAk w' base v c := by
  obtain ⟨p, hv, h1⟩ := h
  exact ⟨p, hv, h1.stays hb⟩
theorem OwnAk.base {w : World} {b b' : Nat} {v : Value} {c : Ak} (h : OwnAk w b v c) (hb : b' ≤ b) : OwnAk w b' v c := by
  obtain ⟨p, hv, h1⟩ := h
  exact ⟨p, hv, h1.base hb⟩
/-- A question that came in. -/
def ArgAk (B : Nat) (w : World) (v : Value) (c : Ak) : Prop := ∃ pa pc, v = akV c (.slice pa c.tg.length pc) ∧ ArgT B w pa c.tg
theorem ArgAk.below {B : Nat} {w w' : World} {v : Value} {c : Ak} (h : ArgAk B w v c) (hb : Below B w w') : ArgAk B w' v c := by
  obtain ⟨pa, pc, hv, h1⟩ := h
  exact ⟨pa, pc, hv, h1.below hb⟩
theorem ArgAk.mono {B B' : Nat} {w : World} {v : Value} {c : Ak} (h : ArgAk B w v c) (hB : B ≤ B') : ArgAk B' w v c := by
  obtain ⟨pa, pc, hv, h1⟩ := h
  exact ⟨pa, pc, hv, fun j hj => by obtain ⟨x, o, h2, h3, h4⟩ := h1 j hj; exact ⟨x, o, h2, Nat.lt_of_lt_of_le h3 hB, h4⟩⟩
/-- What a question weighs. -/
def wtAk (c : Ak) : Nat := totT c.tg
/-- Numbers that a machine's word holds. -/
def WdAk (c : Ak) : Prop := Wd [c.plan, c.want, c.nonce, c.time] ∧ WdT c.tg ∧ c.tg.length ≤ 9223372036854775807
/-- What is left of a bound. -/
def szAk (c : Ak) (left : Int) : Int := if (wtAk c : Int) ≤ left then left - wtAk c else -1
theorem szAk_yes {c : Ak} (h : wtAk c ≤ 1048576) : szAk c 1048576 = 1048576 - (wtAk c : Int) := by unfold szAk; rw [if_pos (by omega)]
theorem szAk_no {c : Ak} (h : ¬ wtAk c ≤ 1048576) : szAk c 1048576 = -1 := by unfold szAk; rw [if_neg (by omega)]
theorem wtAk_len {c : Ak} (h : wtAk c ≤ 1048576) : c.tg.length ≤ 1048576 := Nat.le_trans (tot_len _) h
/-- What came in, and a question of one's own, each in a variable's block. -/
def KAk (w W : World) (g1 g2 : Nat) (t1 t2 : TypeId) (a b : Array Value) (c : Ak) : Prop := Below w.heap.size w W ∧ Blk W g1 t1 a ∧ Blk W g2 t2 b ∧ AkAt W (.agg b) c
theorem KAk.below {w W W' : World} {g1 g2 : Nat} {t1 t2 : TypeId} {a b : Array Value} {c : Ak} (h : KAk w W g1 g2 t1 t2 a b c) (hb : Below W.heap.size W W') : KAk w W' g1 g2 t1 t2 a b c :=
  ⟨h.1.trans (hb.mono h.1.size), h.2.1.below hb h.2.1.lt, h.2.2.1.below hb h.2.2.1.lt, h.2.2.2.below hb⟩
end Go.Proofs.Ytllmgjfffkhocaa
