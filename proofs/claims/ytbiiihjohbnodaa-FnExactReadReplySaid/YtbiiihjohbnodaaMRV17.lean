/-
  Texts of the proof.
-/
import Derived.Deep.MidRow
import Derived.Deep.RegionHeld3
import Derived.Test.YtbiiihjohbnodaaMRV16
namespace Go.Proofs.Ytbiiihjohbnodaa
open Go.RowKit
set_option linter.unusedVariables false
set_option linter.unusedSimpArgs false
theorem rowOne {w : World} {base t n : Nat} {s : Nat} {p : Value} {l : List Value} (h : w.ownsRow base t s p n l) : p.oneCell' = true := by
 rcases h.2 with ⟨rfl, _⟩ | ⟨g, cap, cur, rfl, _⟩ <;> rfl
theorem ap_ne {p e : Value} (h : Ap p e) {g : Nat} (h1 : p.ownBlock = some g) (h2 : e.ownBlock = some g) : False := by
 rcases h with h | h
 ·rw [h] at h1; cases h1
 ·exact h (h1.trans h2.symm)
theorem optNodup (o : Option Nat) : o.toList.Nodup := by cases o <;> simp
structure Aw where
 status : Int
 why : Int
 path : List ByteArray
 lst : List ByteArray
def awV (c : Aw) (p e : Value) : Value := .agg #[.int .i64 c.status, .int .i64 c.why, p, e]
def AwAt (w : World) (v : Value) (c : Aw) : Prop := ∃ p e, v = awV c p e /\ TxtAt w p c.path /\ TxtAt w e c.lst
theorem AwAt.below {w w' : World} {v : Value} {c : Aw} (h : AwAt w v c) (hb : Below w.heap.size w w') : AwAt w' v c := by
 obtain ⟨p, e, hv, h1, h2⟩ := h
 exact ⟨p, e, hv, h1.below hb, h2.below hb⟩
theorem AwAt.shape {w : World} {v : Value} {c : Aw} (h : AwAt w v c) : ∃ p q e r, v = awV c (.slice p c.path.length q) (.slice e c.lst.length r) := by
 obtain ⟨pv, ev, hv, ⟨p, q, h1, _⟩, ⟨e, r, h2, _⟩⟩ := h
 exact ⟨p, q, e, r, by rw [hv, h1, h2]⟩
def OwnAw (w : World) (base : Nat) (v : Value) (c : Aw) : Prop := ∃ p e, v = awV c p e /\ OwnT w base p c.path /\ OwnT w base e c.lst /\ (Ap p e /\ Ap e p)
theorem OwnAw.at {w : World} {base : Nat} {v : Value} {c : Aw} (h : OwnAw w base v c) : AwAt w v c := by
 obtain ⟨p, e, hv, h1, h2, _⟩ := h
 exact ⟨p, e, hv, h1.at, h2.at⟩
theorem OwnAw.stays {w w' : World} {base : Nat} {v : Value} {c : Aw} (h : OwnAw w base v c) (hb : Below w.heap.size w w') : OwnAw w' base v c := by
 obtain ⟨p, e, hv, h1, h2, h3⟩ := h
 exact ⟨p, e, hv, h1.stays hb, h2.stays hb, h3⟩
theorem OwnAw.base {w : World} {b b' : Nat} {v : Value} {c : Aw} (h : OwnAw w b v c) (hb : b' <= b) : OwnAw w b' v c := by
 obtain ⟨p, e, hv, h1, h2, h3⟩ := h
 exact ⟨p, e, hv, h1.base hb, h2.base hb, h3⟩
def fpAw (v : Value) : List Nat := match v with
 | .agg a => (a.getD 2 (.slice none 0 0)).ownBlock.toList ++ (a.getD 3 (.slice none 0 0)).ownBlock.toList
 | _ => []
theorem fpAw_mem {c : Aw} {p e : Value} {g : Nat} : g ∈ fpAw (awV c p e) ↔ p.ownBlock = some g ∨ e.ownBlock = some g := by
 show g ∈ p.ownBlock.toList ++ e.ownBlock.toList ↔ _
 simp [List.mem_append, Option.mem_toList]
theorem fpAw_lt {w : World} {base : Nat} {v : Value} {c : Aw} (h : OwnAw w base v c) : ∀ b ∈ fpAw v, base <= b /\ b < w.heap.size := by
 obtain ⟨p, e, rfl, h1, h2, _⟩ := h
 intro b hb
 rcases fpAw_mem.1 hb with h | h
 ·exact World.ownsRow.lt h1 b h
 ·exact World.ownsRow.lt h2 b h
theorem OwnAw.same {w w' : World} {base : Nat} {v : Value} {c : Aw} (h : OwnAw w base v c) (hs : ∀ g ∈ fpAw v, w'.heap[g]? = w.heap[g]?) : OwnAw w' base v c := by
 obtain ⟨p, e, rfl, h1, h2, h3⟩ := h
 exact ⟨p, e, rfl, row_same h1 fun g hg => hs g (fpAw_mem.2 (.inl hg)), row_same h2 fun g hg => hs g (fpAw_mem.2 (.inr hg)), h3⟩
def wtAw (c : Aw) : Nat := totT c.path + totT c.lst
def WdAw (c : Aw) : Prop := Wd [c.status, c.why] /\ WdT c.path /\ WdT c.lst /\ c.path.length <= 9223372036854775807 /\ c.lst.length <= 9223372036854775807
theorem wtAw_lens {c : Aw} {b : Nat} (h : wtAw c <= b) : c.path.length <= b /\ c.lst.length <= b := by
 have h1 := tot_len c.path
 have h2 := tot_len c.lst
 unfold wtAw at h
 omega
def awKd : Kd Aw where
 T := 84
 K := 4
 Own := OwnAw
 At := AwAt
 fp := fpAw
 pos := by decide
 size := fun h => by
  obtain ⟨p, e, rfl, h1, h2, _⟩ := h
  refine ⟨rfl, fun x hx => ?_⟩
  change x ∈ [_, _, _, _] at hx
  simp only [List.mem_cons, List.not_mem_nil, or_false] at hx
  rcases hx with rfl | rfl | rfl | rfl
  all_goals first | rfl | exact rowOne h1 | exact rowOne h2
 same := OwnAw.same
 lt := fpAw_lt
 base := OwnAw.base
 nodup := fun h => by
  obtain ⟨p, e, rfl, h1, h2, h3⟩ := h
  show (p.ownBlock.toList ++ e.ownBlock.toList).Nodup
  exact nodup_app (optNodup _) (optNodup _) fun y h7 h8 => ap_ne h3.1 (Option.mem_toList.1 h7) (Option.mem_toList.1 h8)
 own_at := OwnAw.at
 below := AwAt.below
theorem infoAns : (Try.prog.info? 84).map (fun i => (i.zero, i.size, i.bytes)) = some (some (.agg #[.int .i64 0, .int .i64 0, .slice none 0 0, .slice none 0 0]), 4, 64) := by kernel_rfl
def wtAS (l : List Aw) : Nat := l.length + (l.map wtAw).sum
theorem wtAS_mem : ∀ {l : List Aw} {c : Aw}, c ∈ l -> wtAw c <= wtAS l
 | c :: l, d, h => by
  rcases List.mem_cons.1 h with rfl | h
  ·unfold wtAS; simp; omega
  ·have := wtAS_mem h
   unfold wtAS at this |-
   simp
   omega
structure Rp where
 hash : ByteArray
 nonce : Int
 time : Int
 next : Int
 plan : Int
 err : Int
 ans : List Aw
 sig : ByteArray
def rpV (c : Rp) (p : Value) : Value := .agg #[.string c.hash, .int .i64 c.nonce, .int .i64 c.time, .int .i64 c.next, .int .i64 c.plan, .int .i64 c.err, p, .string c.sig]
def RpAt (w : World) (v : Value) (c : Rp) : Prop := ∃ p, v = rpV c p /\ AtS awKd w p c.ans
theorem RpAt.below {w w' : World} {v : Value} {c : Rp} (h : RpAt w v c) (hb : Below w.heap.size w w') : RpAt w' v c := by
 obtain ⟨p, hv, h1⟩ := h
 exact ⟨p, hv, h1.below hb⟩
theorem RpAt.shape {w : World} {v : Value} {c : Rp} (h : RpAt w v c) : ∃ p q, v = rpV c (.slice p c.ans.length q) := by
 obtain ⟨pv, hv, h1⟩ := h
 obtain ⟨a, q, hp⟩ := h1.shape
 exact ⟨a, q, by rw [hv, hp]⟩
def OwnRp (w : World) (base : Nat) (v : Value) (c : Rp) (fp : List Nat) : Prop := ∃ p, v = rpV c p /\ OwnS awKd w base p c.ans fp
theorem OwnRp.at {w : World} {base : Nat} {v : Value} {c : Rp} {fp : List Nat} (h : OwnRp w base v c fp) : RpAt w v c := by
 obtain ⟨p, hv, h1⟩ := h
 exact ⟨p, hv, h1.at⟩
theorem OwnRp.stays {w w' : World} {base : Nat} {v : Value} {c : Rp} {fp : List Nat} (h : OwnRp w base v c fp) (hb : Below w.heap.size w w') : OwnRp w' base v c fp := by
 obtain ⟨p, hv, h1⟩ := h
 exact ⟨p, hv, h1.stays hb⟩
theorem OwnRp.lt {w : World} {base : Nat} {v : Value} {c : Rp} {fp : List Nat} (h : OwnRp w base v c fp) : ∀ b ∈ fp, base <= b /\ b < w.heap.size := by
 obtain ⟨p, hv, h1⟩ := h
 exact h1.lt
theorem OwnRp.same {w w' : World} {base : Nat} {v : Value} {c : Rp} {fp : List Nat} (h : OwnRp w base v c fp) (hs : ∀ b ∈ fp, w'.heap[b]? = w.heap[b]?) : OwnRp w' base v c fp := by
 obtain ⟨p, hv, h1⟩ := h
 exact ⟨p, hv, h1.same hs⟩
theorem OwnRp.out {w w' : World} {base : Nat} {v : Value} {c : Rp} {fp fq : List Nat} (h : OwnRp w base v c fp) (ho : Out fq w w') (hn : ∀ b ∈ fp, b ∉ fq) : OwnRp w' base v c fp := h.same fun b hm => ho.2.2.2.2 b (h.lt b hm).2 (hn b hm)
def wtR (c : Rp) : Nat := c.hash.size + wtAS c.ans + c.sig.size
def WdRp (c : Rp) : Prop := Wd [c.nonce, c.time, c.next, c.plan, c.err] /\ WdT [c.hash, c.sig] /\ (∀ x ∈ c.ans, WdAw x) /\ c.ans.length <= 9223372036854775807
theorem wtR_ans {c : Rp} {b : Nat} (h : wtR c <= b) : wtAS c.ans <= b := by unfold wtR at h; omega
theorem wtAS_len (l : List Aw) : l.length <= wtAS l := by unfold wtAS; omega
end Go.Proofs.Ytbiiihjohbnodaa
