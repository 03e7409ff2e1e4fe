/-
  Texts of the proof, one behind the other: CrA, CrB.
-/
import Derived.Test.YtbfbaofjkefmmaaDO7

/-
  Letters: as data, in memory, of one's own, that came in; the laws' toCert, szCert, eqCert.
-/
namespace Go.Proofs.Ytbfbaofjkefmmaa
open Go.RowKit
set_option linter.unusedVariables false

/-- A letter as data. -/
structure Ct where
  serial : Int
  issuer : ByteArray
  subject : ByteArray
  frm : Int
  upto : Int
  key : ByteArray
  ca : Bool
  pathLen : Int
  usage : Int
  pol : List Int
  per : List ByteArray
  den : List ByteArray
  sig : ByteArray
/-- A letter as a value, its lists being told. -/
def ctV (c : Ct) (p e d : Value) : Value := .agg #[.int .i64 c.serial, .string c.issuer, .string c.subject, .int .i64 c.frm, .int .i64 c.upto, .string c.key, .bool c.ca, .int .i64 c.pathLen, .int .i64 c.usage, p, e, d, .string c.sig]
/-- A letter can be read at a value. -/
def CtAt (w : World) (v : Value) (c : Ct) : Prop := ∃ p e d, v = ctV c p e d ∧ IntAt w p c.pol ∧ TxtAt w e c.per ∧ TxtAt w d c.den
theorem CtAt.below {w w' : World} {v : Value} {c : Ct} (h : CtAt w v c) (hb : Below w.heap.size w w') : CtAt w' v c := by
  obtain ⟨p, e, d, hv, h1, h2, h3⟩ := h
  exact ⟨p, e, d, hv, h1.below hb, h2.below hb, h3.below hb⟩
/-- A letter whose lists a call owns, each in a block of its own. -/
def OwnC (w : World) (base : Nat) (v : Value) (c : Ct) : Prop := ∃ p e d, v = ctV c p e d ∧ OwnI w base p c.pol ∧ OwnT w base e c.per ∧ OwnT w base d c.den ∧ (Ap p e ∧ Ap e p) ∧ (Ap p d ∧ Ap d p) ∧ (Ap e d ∧ Ap d e)
theorem OwnC.at {w : World} {base : Nat} {v : Value} {c : Ct} (h : OwnC w base v c) : CtAt w v c := by
  obtain ⟨p, e, d, hv, h1, h2, h3, _⟩ := h
  exact ⟨p, e, d, hv, h1.at, h2.at, h3.at⟩
theorem OwnC.stays {w w' : World} {base : Nat} {v : Value} {c : Ct} (h : OwnC w base v c) (hb : Below w.heap.size w w') : OwnC w' base v c := by
  obtain ⟨p, e, d, hv, h1, h2, h3, h4⟩ := h
  exact ⟨p, e, d, hv, h1.stays hb, h2.stays hb, h3.stays hb, h4⟩
theorem OwnT.base {w : World} {b b' : Nat} {v : Value} {l : List ByteArray} (h : OwnT w b v l) (hb : b' ≤ b) : OwnT w b' v l := by
  obtain ⟨h1, h2⟩ := h
  refine ⟨h1, ?_⟩
  rcases h2 with h2 | ⟨g, cap, cur, hv, hbg, r⟩
  · exact .inl h2
  · exact .inr ⟨g, cap, cur, hv, Nat.le_trans hb hbg, r⟩
theorem OwnC.base {w : World} {b b' : Nat} {v : Value} {c : Ct} (h : OwnC w b v c) (hb : b' ≤ b) : OwnC w b' v c := by
  obtain ⟨p, e, d, hv, h1, h2, h3, h4⟩ := h
  exact ⟨p, e, d, hv, h1.base hb, h2.base hb, h3.base hb, h4⟩
/-- A letter that came in. -/
def ArgC (B : Nat) (w : World) (v : Value) (c : Ct) : Prop := ∃ pa pc ea ec da dc, v = ctV c (.slice pa c.pol.length pc) (.slice ea c.per.length ec) (.slice da c.den.length dc) ∧ ArgAt B w pa c.pol ∧ ArgT B w ea c.per ∧ ArgT B w da c.den
theorem ArgC.below {B : Nat} {w w' : World} {v : Value} {c : Ct} (h : ArgC B w v c) (hb : Below B w w') : ArgC B w' v c := by
  obtain ⟨pa, pc, ea, ec, da, dc, hv, h1, h2, h3⟩ := h
  exact ⟨pa, pc, ea, ec, da, dc, hv, h1.below hb, h2.below hb, h3.below hb⟩
end Go.Proofs.Ytbfbaofjkefmmaa

/-
  The laws' szIntS, toCert, szCert, eqCert.
-/
namespace Go.Proofs.Ytbfbaofjkefmmaa
open Go.RowKit
set_option linter.unusedVariables false

/-- A block of cells that a call laid. -/
def Blk (w : World) (b : Nat) (t : TypeId) (vs : Array Value) : Prop := w.heap[b]? = some (.cells vs t (0, 0))
theorem Blk.lt {w : World} {b : Nat} {t : TypeId} {vs : Array Value} (h : Blk w b t vs) : b < w.heap.size := by
  rcases Nat.lt_or_ge b w.heap.size with h1 | h1
  · exact h1
  · unfold Blk at h; rw [Array.getElem?_eq_none h1] at h; cases h
theorem Blk.below {w w' : World} {b : Nat} {t : TypeId} {vs : Array Value} (h : Blk w b t vs) {B : Nat} (hb : Below B w w') (hB : b < B) : Blk w' b t vs := (hb.block b hB).trans h
theorem Blk.other {w : World} {b : Nat} {t : TypeId} {vs : Array Value} (h : Blk w b t vs) {p : Addr} (v : Value) (hp : b ≠ p.block) : Blk (w.setCell p v) b t vs := (heap_setCell_other _ _ _ _ hp).trans h
theorem Blk.set {w : World} {b : Nat} {t : TypeId} {vs : Array Value} (h : Blk w b t vs) (i : Nat) (v : Value) : Blk (w.setCell ⟨b, i, none⟩ v) b t (vs.setIfInBounds i v) := heap_setCell_same w b i _ t _ h
theorem size_alloc (w : World) (o : Obj) : (w.alloc o).heap.size = w.heap.size + 1 := Array.size_push _
theorem Blk.free {w : World} {b : Nat} {t : TypeId} {vs : Array Value} (h : Blk w b t vs) (j : Nat) : w.frozen? ⟨b, j, none⟩ = false := by
  unfold Blk at h
  simp [World.frozen?, h]
theorem Blk.cell {w : World} {b : Nat} {t : TypeId} {vs : Array Value} (h : Blk w b t vs) (j : Nat) : w.cell? ⟨b, j, none⟩ = vs[j]? := by
  unfold Blk at h
  simp [World.cell?, h]
theorem Blk.new (w : World) (t : TypeId) (vs : Array Value) : Blk (w.alloc (.cells vs t)) w.heap.size t vs := heap_alloc_new w _
theorem Blk.alloc {w : World} {b : Nat} {t : TypeId} {vs : Array Value} (h : Blk w b t vs) (o : Obj) : Blk (w.alloc o) b t vs := (heap_alloc_old w o h.lt).trans h

theorem OwnI.block {w w' : World} {b : Nat} {v : Value} {l : List Int} (h : OwnI w b v l) (hh : ∀ g, b ≤ g → w'.heap[g]? = w.heap[g]?) : OwnI w' b v l := by
  obtain ⟨h1, h2⟩ := h
  refine ⟨h1, ?_⟩
  rcases h2 with h2 | ⟨g, cap, cur, hv, hbg, hg, r⟩
  · exact .inl h2
  · exact .inr ⟨g, cap, cur, hv, hbg, (hh g hbg).trans hg, r⟩
theorem OwnT.block {w w' : World} {b : Nat} {v : Value} {l : List ByteArray} (h : OwnT w b v l) (hh : ∀ g, b ≤ g → w'.heap[g]? = w.heap[g]?) : OwnT w' b v l := by
  obtain ⟨h1, h2⟩ := h
  refine ⟨h1, ?_⟩
  rcases h2 with h2 | ⟨g, cap, cur, hv, hbg, hg, r⟩
  · exact .inl h2
  · exact .inr ⟨g, cap, cur, hv, hbg, (hh g hbg).trans hg, r⟩

end Go.Proofs.Ytbfbaofjkefmmaa
