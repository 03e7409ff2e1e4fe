/-
  Texts of the proof.
-/
import Derived.Deep.RegionHeld3
import Derived.Test.YtllmgjfffkhocaaTR20
namespace Go.Proofs.Ytllmgjfffkhocaa
open Go.RowKit
set_option linter.unusedVariables false
theorem okO_of {s : So} (hz : wtO s <= 1048576) (wd : WdO s) : OkO s := by
 unfold wtO at hz
 have h1 : wtM s.certs = s.certs.length + (s.certs.map wtC).sum := rfl
 have h2 : wtS s.crls = s.crls.length + (s.crls.map wtL).sum := rfl
 have h3 : wtN s.ancs = s.ancs.length + (s.ancs.map wtA).sum := rfl
 exact ⟨⟨by omega, by omega, by omega⟩, fun c hc => ⟨by have := wtM_mem hc; omega, wd.1.1 c hc⟩, fun c hc => ⟨by have := wtS_mem hc; omega, wd.2.1.1 c hc⟩, fun c hc => by have := wtN_mem hc; omega⟩
theorem wtN_len (l : List An) : l.length <= wtN l := by unfold wtN; omega
def Lim (s : So) : Prop := wtM s.certs <= 1048577 /\ wtS s.crls <= 1048576 + 1 /\ s.ancs.length <= 1048577
structure Ru where
 time : Int
 pol : List Int
 expl : Bool
 chk : Bool
 usage : Int
def ruV (c : Ru) (p : Value) : Value := .agg #[.int .i64 c.time, p, .bool c.expl, .bool c.chk, .int .i64 c.usage]
def RuAt (w : World) (v : Value) (c : Ru) : Prop := ∃ p, v = ruV c p /\ IntAt w p c.pol
def OwnU (w : World) (base : Nat) (v : Value) (c : Ru) : Prop := ∃ p, v = ruV c p /\ OwnI w base p c.pol
def ArgU (B : Nat) (w : World) (v : Value) (c : Ru) : Prop := ∃ pa pc, v = ruV c (.slice pa c.pol.length pc) /\ ArgAt B w pa c.pol
theorem ArgU.mono {B B' : Nat} {w : World} {v : Value} {c : Ru} (h : ArgU B w v c) (hB : B <= B') : ArgU B' w v c := by
 obtain ⟨pa, pc, hv, h1⟩ := h
 exact ⟨pa, pc, hv, fun j hj => by obtain ⟨x, o, h2, h3, h4⟩ := h1 j hj; exact ⟨x, o, h2, Nat.lt_of_lt_of_le h3 hB, h4⟩⟩
def wtU (c : Ru) : Nat := c.pol.length
def WdU (c : Ru) : Prop := Wd [c.time, c.usage] /\ Wd c.pol /\ c.pol.length <= 9223372036854775807
def szU (c : Ru) (left : Int) : Int := if (wtU c : Int) <= left then left - wtU c else -1
end Go.Proofs.Ytllmgjfffkhocaa
namespace Go.Proofs.Ytllmgjfffkhocaa
open Go.RowKit
set_option linter.unusedVariables false
set_option linter.unusedSimpArgs false
structure Pn where
 id : Int
 anc : List Int
 ru : Ru
def pnV (c : Pn) (p e : Value) : Value := .agg #[.int .i64 c.id, p, .int .i64 c.ru.time, e, .bool c.ru.expl, .bool c.ru.chk, .int .i64 c.ru.usage]
def PnAt (w : World) (v : Value) (c : Pn) : Prop := ∃ p e, v = pnV c p e /\ IntAt w p c.anc /\ IntAt w e c.ru.pol
theorem PnAt.shape {w : World} {v : Value} {c : Pn} (h : PnAt w v c) : ∃ p q e r, v = pnV c (.slice p c.anc.length q) (.slice e c.ru.pol.length r) := by
 obtain ⟨pv, ev, hv, ⟨p, q, h1, _⟩, ⟨e, r, h2, _⟩⟩ := h
 exact ⟨p, q, e, r, by rw [hv, h1, h2]⟩
def OwnPn (w : World) (base : Nat) (v : Value) (c : Pn) : Prop := ∃ p e, v = pnV c p e /\ OwnI w base p c.anc /\ OwnI w base e c.ru.pol /\ (Ap p e /\ Ap e p)
theorem OwnPn.at {w : World} {base : Nat} {v : Value} {c : Pn} (h : OwnPn w base v c) : PnAt w v c := by
 obtain ⟨p, e, hv, h1, h2, _⟩ := h
 exact ⟨p, e, hv, h1.at, h2.at⟩
theorem OwnPn.stays {w w' : World} {base : Nat} {v : Value} {c : Pn} (h : OwnPn w base v c) (hb : Below w.heap.size w w') : OwnPn w' base v c := by
 obtain ⟨p, e, hv, h1, h2, h3⟩ := h
 exact ⟨p, e, hv, h1.stays hb, h2.stays hb, h3⟩
def fpPn (v : Value) : List Nat := match v with
 | .agg a => (a.getD 1 (.slice none 0 0)).ownBlock.toList ++ (a.getD 3 (.slice none 0 0)).ownBlock.toList
 | _ => []
theorem fpPn_mem {c : Pn} {p e : Value} {g : Nat} : g ∈ fpPn (pnV c p e) ↔ p.ownBlock = some g ∨ e.ownBlock = some g := by
 show g ∈ p.ownBlock.toList ++ e.ownBlock.toList ↔ _
 simp [List.mem_append, Option.mem_toList]
theorem fpPn_lt {w : World} {base : Nat} {v : Value} {c : Pn} (h : OwnPn w base v c) : ∀ b ∈ fpPn v, base <= b /\ b < w.heap.size := by
 obtain ⟨p, e, rfl, h1, h2, _⟩ := h
 intro b hb
 rcases fpPn_mem.1 hb with h | h
 ·exact World.ownsRow.lt h1 b h
 ·exact World.ownsRow.lt h2 b h
theorem OwnPn.same {w w' : World} {base : Nat} {v : Value} {c : Pn} (h : OwnPn w base v c) (hs : ∀ g ∈ fpPn v, w'.heap[g]? = w.heap[g]?) : OwnPn w' base v c := by
 obtain ⟨p, e, rfl, h1, h2, h3⟩ := h
 exact ⟨p, e, rfl, row_same h1 fun g hg => hs g (fpPn_mem.2 (.inl hg)), row_same h2 fun g hg => hs g (fpPn_mem.2 (.inr hg)), h3⟩
def ArgPn (B : Nat) (w : World) (v : Value) (c : Pn) : Prop := ∃ pa pc ea ec, v = pnV c (.slice pa c.anc.length pc) (.slice ea c.ru.pol.length ec) /\ ArgAt B w pa c.anc /\ ArgAt B w ea c.ru.pol
theorem ArgPn.below {B : Nat} {w w' : World} {v : Value} {c : Pn} (h : ArgPn B w v c) (hb : Below B w w') : ArgPn B w' v c := by
 obtain ⟨pa, pc, ea, ec, hv, h1, h2⟩ := h
 exact ⟨pa, pc, ea, ec, hv, h1.below hb, h2.below hb⟩
theorem ArgPn.mono {B B' : Nat} {w : World} {v : Value} {c : Pn} (h : ArgPn B w v c) (hB : B <= B') : ArgPn B' w v c := by
 obtain ⟨pa, pc, ea, ec, hv, h1, h2⟩ := h
 exact ⟨pa, pc, ea, ec, hv, fun j hj => by obtain ⟨x, o, h2, h3, h4⟩ := h1 j hj; exact ⟨x, o, h2, Nat.lt_of_lt_of_le h3 hB, h4⟩, fun j hj => by obtain ⟨x, o, h3, h4, h5⟩ := h2 j hj; exact ⟨x, o, h3, Nat.lt_of_lt_of_le h4 hB, h5⟩⟩
theorem ArgPn.shape {B : Nat} {w : World} {v : Value} {c : Pn} (h : ArgPn B w v c) : ∃ p q e r, v = pnV c (.slice p c.anc.length q) (.slice e c.ru.pol.length r) := by
 obtain ⟨pa, pc, ea, ec, hv, _⟩ := h
 exact ⟨pa, pc, ea, ec, hv⟩
def wtPn (c : Pn) : Nat := c.anc.length + c.ru.pol.length
def WdPn (c : Pn) : Prop := Wd [c.id, c.ru.time, c.ru.usage] /\ Wd c.anc /\ Wd c.ru.pol /\ c.anc.length <= 9223372036854775807 /\ c.ru.pol.length <= 9223372036854775807
def szPn (c : Pn) (left : Int) : Int := if (wtPn c : Int) <= left then left - wtPn c else -1
theorem wtPn_lens {c : Pn} {b : Nat} (h : wtPn c <= b) : c.anc.length <= b /\ c.ru.pol.length <= b := by
 unfold wtPn at h
 omega
end Go.Proofs.Ytllmgjfffkhocaa
