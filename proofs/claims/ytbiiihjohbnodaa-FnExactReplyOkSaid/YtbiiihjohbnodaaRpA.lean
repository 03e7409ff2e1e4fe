/-
  Replies: as data, in memory, of one's own, that came in.
-/
import Derived.Test.YtbiiihjohbnodaaAwA
namespace Go.Proofs.Ytbiiihjohbnodaa
open Go.RowKit
set_option linter.unusedVariables false
set_option linter.unusedSimpArgs false

/-- A reply as data. -/
structure Rp where
  hash : ByteArray
  nonce : Int
  time : Int
  next : Int
  plan : Int
  err : Int
  ans : List Aw
  sig : ByteArray
def rpV (c : Rp) (p : Value) : Value := .agg #[.string c.hash, .int .i64 c.nonce, .int .i64 c.time, .int .i64 c.next, .int .i64 c.plan, .int .i64 c.err, p, .string c.sig]
/-- A reply can be read at a value. -/
def RpAt (w : World) (v : Value) (c : Rp) : Prop := ∃ p, v = rpV c p ∧ AtS awKd w p c.ans
theorem RpAt.below {w w' : World} {v : Value} {c : Rp} (h : RpAt w v c) (hb : Below w.heap.size w w') : RpAt w' v c := by
  obtain ⟨p, hv, h1⟩ := h
  exact ⟨p, hv, h1.below hb⟩
theorem RpAt.shape {w : World} {v : Value} {c : Rp} (h : RpAt w v c) : ∃ p q, v = rpV c (.slice p c.ans.length q) := by
  obtain ⟨pv, hv, h1⟩ := h
  obtain ⟨a, q, hp⟩ := h1.shape
  exact ⟨a, q, by rw [hv, hp]⟩
theorem RpAt.row {w : World} {c : Rp} {p : Value} (h : RpAt w (rpV c p) c) : AtS awKd w p c.ans := by
  obtain ⟨q, hv, h1⟩ := h
  have e : p = q := by
    unfold rpV at hv
    injection hv with hv
    have := congrArg (·[6]?) hv
    simpa using this
  rw [e]
  exact h1
/-- A reply whose rows a call owns, and the blocks that they take. -/
def OwnRp (w : World) (base : Nat) (v : Value) (c : Rp) (fp : List Nat) : Prop := ∃ p, v = rpV c p ∧ OwnS awKd w base p c.ans fp
theorem OwnRp.at {w : World} {base : Nat} {v : Value} {c : Rp} {fp : List Nat} (h : OwnRp w base v c fp) : RpAt w v c := by
  obtain ⟨p, hv, h1⟩ := h
  exact ⟨p, hv, h1.at⟩
theorem OwnRp.stays {w w' : World} {base : Nat} {v : Value} {c : Rp} {fp : List Nat} (h : OwnRp w base v c fp) (hb : Below w.heap.size w w') : OwnRp w' base v c fp := by
  obtain ⟨p, hv, h1⟩ := h
  exact ⟨p, hv, h1.stays hb⟩
theorem OwnRp.base {w : World} {b b' : Nat} {v : Value} {c : Rp} {fp : List Nat} (h : OwnRp w b v c fp) (hb : b' ≤ b) : OwnRp w b' v c fp := by
  obtain ⟨p, hv, h1⟩ := h
  exact ⟨p, hv, h1.base hb⟩
theorem OwnRp.lt {w : World} {base : Nat} {v : Value} {c : Rp} {fp : List Nat} (h : OwnRp w base v c fp) : ∀ b ∈ fp, base ≤ b ∧ b < w.heap.size := by
  obtain ⟨p, hv, h1⟩ := h
  exact h1.lt
theorem OwnRp.same {w w' : World} {base : Nat} {v : Value} {c : Rp} {fp : List Nat} (h : OwnRp w base v c fp) (hs : ∀ b ∈ fp, w'.heap[b]? = w.heap[b]?) : OwnRp w' base v c fp := by
  obtain ⟨p, hv, h1⟩ := h
  exact ⟨p, hv, h1.same hs⟩
theorem OwnRp.out {w w' : World} {base : Nat} {v : Value} {c : Rp} {fp fq : List Nat} (h : OwnRp w base v c fp) (ho : Out fq w w') (hn : ∀ b ∈ fp, b ∉ fq) : OwnRp w' base v c fp := h.same fun b hm => ho.2.2.2.2 b (h.lt b hm).2 (hn b hm)
/-- A reply that came in. -/
def ArgRp (B : Nat) (w : World) (v : Value) (c : Rp) : Prop := ∃ pa pc, v = rpV c (.slice pa c.ans.length pc) ∧ ArgAS B w (.slice pa c.ans.length pc) c.ans
theorem ArgRp.below {B : Nat} {w w' : World} {v : Value} {c : Rp} (h : ArgRp B w v c) (hb : Below B w w') : ArgRp B w' v c := by
  obtain ⟨pa, pc, hv, h1⟩ := h
  exact ⟨pa, pc, hv, h1.below hb (Nat.le_refl _)⟩
theorem ArgRp.mono {B B' : Nat} {w : World} {v : Value} {c : Rp} (h : ArgRp B w v c) (hB : B ≤ B') : ArgRp B' w v c := by
  obtain ⟨pa, pc, hv, h1⟩ := h
  exact ⟨pa, pc, hv, h1.below (Below.refl _ _) hB⟩
/-- What a reply weighs. -/
def wtR (c : Rp) : Nat := c.hash.size + wtAS c.ans + c.sig.size
def WdRp (c : Rp) : Prop := Wd [c.nonce, c.time, c.next, c.plan, c.err] ∧ WdT [c.hash, c.sig] ∧ (∀ x ∈ c.ans, WdAw x) ∧ c.ans.length ≤ 9223372036854775807
def szRp (c : Rp) (left : Int) : Int := if (wtR c : Int) ≤ left then left - wtR c else -1
theorem szRp_yes {c : Rp} (h : wtR c ≤ 1048576) : szRp c 1048576 = 1048576 - (wtR c : Int) := by unfold szRp; rw [if_pos (by omega)]
theorem szRp_no {c : Rp} (h : ¬ wtR c ≤ 1048576) : szRp c 1048576 = -1 := by unfold szRp; rw [if_neg (by omega)]
theorem wtR_ans {c : Rp} {b : Nat} (h : wtR c ≤ b) : wtAS c.ans ≤ b := by unfold wtR at h; omega
theorem wtAS_len (l : List Aw) : l.length ≤ wtAS l := by unfold wtAS; omega
/-- What came in, and a reply of one's own, each in a variable's block. -/
def KRp (w W : World) (g1 g2 : Nat) (t1 t2 : TypeId) (a b : Array Value) (c : Rp) : Prop := Below w.heap.size w W ∧ Blk W g1 t1 a ∧ Blk W g2 t2 b ∧ RpAt W (.agg b) c
theorem KRp.below {w W W' : World} {g1 g2 : Nat} {t1 t2 : TypeId} {a b : Array Value} {c : Rp} (h : KRp w W g1 g2 t1 t2 a b c) (hb : Below W.heap.size W W') : KRp w W' g1 g2 t1 t2 a b c :=
  ⟨h.1.trans (hb.mono h.1.size), h.2.1.below hb h.2.1.lt, h.2.2.1.below hb h.2.2.1.lt, h.2.2.2.below hb⟩
end Go.Proofs.Ytbiiihjohbnodaa
