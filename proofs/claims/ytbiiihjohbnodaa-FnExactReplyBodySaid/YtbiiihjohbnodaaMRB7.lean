/-
  Texts of the proof.
-/
import Derived.ChangeArms
import Derived.ChangeSlices
import Derived.ChangeOld
import Derived.DataElems
import Derived.OpenShut
import Derived.WalkKit
import Derived.Laws.RangeString
import Derived.Laws.RangeAny
import Derived.Deep.RegionHeld3
import Derived.Test.YtbiiihjohbnodaaMRB6
namespace Go.Proofs.Ytbiiihjohbnodaa
open Go.RowKit Go.ChangeShapes
set_option linter.unusedVariables false
theorem cI : Try.prog.cellsOf 3 = 1 := by kernel_rfl
theorem cS : Try.prog.cellsOf 9 = 1 := by kernel_rfl
theorem cT : Try.prog.cellsOf 22 = 1 := by kernel_rfl
theorem take_one {cs : List Value} {k : Nat} {v : Value} (h : (cs.drop k).take 1 = [v]) : cs[k]? = some v := by
 have := congrArg (·[0]?) h
 simpa [List.getElem?_take, List.getElem?_drop] using this
theorem texts_in {H : Type} {enc : TypeId × Value -> H} {W : World} {fuel : Nat} {cs : List Value} {x : DataW H × List MemPlace} (h : DataW.trod enc Try.prog W 0 (fun _ => true) true fuel 22 cs = some x) :
  ∃ ao cap, ∃ l : List ByteArray, cs = [.slice ao l.length cap] /\ l.length <= maxLen /\ WdT l /\ ArgT W.heap.size W ao l := by
 rcases open_strings Try.underlying22 Try.underlying9 (by kernel_rfl) h with ⟨hcs, _⟩ | ⟨x, l, c, zs, hcs, _, hl, hm, hz, _, hcell, hwz⟩
 ·exact ⟨none, 0, [], hcs, Nat.zero_le _, fun x hx => by simp at hx, fun j hj => by simp at hj⟩
 ·obtain ⟨h1, h2, h3⟩ := argT_of hl (by simpa using hz) hcell hwz
  exact ⟨some x, c, zs.take l, by rw [h1]; exact hcs, by rw [h1]; exact Nat.le_trans hl hm, h2, h3⟩
end Go.Proofs.Ytbiiihjohbnodaa
namespace Go.Proofs.Ytbiiihjohbnodaa
open Go.RowKit
set_option linter.unusedVariables false
set_option linter.unusedSimpArgs false
theorem rowOne {w : World} {base t n : Nat} {s : Nat} {p : Value} {l : List Value} (h : w.ownsRow base t s p n l) : p.oneCell' = true := by
 rcases h.2 with ⟨rfl, _⟩ | ⟨g, cap, cur, rfl, _⟩ <;> rfl
theorem ap_ne {p e : Value} (h : Ap p e) {g : Nat} (h1 : p.ownBlock = some g) (h2 : e.ownBlock = some g) : False := by
 rcases h with h | h
 ·rw [h] at h1; cases h1
 ·exact h (h1.trans h2.symm)
theorem optNodup (o : Option Nat) : o.toList.Nodup := by cases o <;> simp
theorem sumM_take {l : List Nat} {k : Nat} (h : k < l.length) : (l.take (k + 1)).sum = (l.take k).sum + l[k] := by
 rw [List.take_add_one, List.sum_append, List.getElem?_eq_getElem h]
 simp
theorem sumM_take_le (l : List Nat) (k : Nat) : (l.take k).sum <= l.sum := by
 have h : (l.take k ++ l.drop k).sum = (l.take k).sum + (l.drop k).sum := List.sum_append
 rw [List.take_append_drop] at h
 omega
structure Aw where
 status : Int
 why : Int
 path : List ByteArray
 lst : List ByteArray
def awV (c : Aw) (p e : Value) : Value := .agg #[.int .i64 c.status, .int .i64 c.why, p, e]
def AwAt (w : World) (v : Value) (c : Aw) : Prop := ∃ p e, v = awV c p e /\ TxtAt w p c.path /\ TxtAt w e c.lst
theorem AwAt.below {w w' : World} {v : Value} {c : Aw} (h : AwAt w v c) (hb : Below w.heap.size w w') : AwAt w' v c := by
 obtain ⟨p, e, hv, h1, h2⟩ := h
 exact ⟨p, e, hv, h1.below hb, h2.below hb⟩
theorem AwAt.shape {w : World} {v : Value} {c : Aw} (h : AwAt w v c) : ∃ p q e r, v = awV c (.slice p c.path.length q) (.slice e c.lst.length r) := by
 obtain ⟨pv, ev, hv, ⟨p, q, h1, _⟩, ⟨e, r, h2, _⟩⟩ := h
 exact ⟨p, q, e, r, by rw [hv, h1, h2]⟩
def OwnAw (w : World) (base : Nat) (v : Value) (c : Aw) : Prop := ∃ p e, v = awV c p e /\ OwnT w base p c.path /\ OwnT w base e c.lst /\ (Ap p e /\ Ap e p)
theorem OwnAw.at {w : World} {base : Nat} {v : Value} {c : Aw} (h : OwnAw w base v c) : AwAt w v c := by
 obtain ⟨p, e, hv, h1, h2, _⟩ := h
 exact ⟨p, e, hv, h1.at, h2.at⟩
theorem OwnAw.base {w : World} {b b' : Nat} {v : Value} {c : Aw} (h : OwnAw w b v c) (hb : b' <= b) : OwnAw w b' v c := by
 obtain ⟨p, e, hv, h1, h2, h3⟩ := h
 exact ⟨p, e, hv, h1.base hb, h2.base hb, h3⟩
def fpAw (v : Value) : List Nat := match v with
 | .agg a => (a.getD 2 (.slice none 0 0)).ownBlock.toList ++ (a.getD 3 (.slice none 0 0)).ownBlock.toList
 | _ => []
theorem fpAw_mem {c : Aw} {p e : Value} {g : Nat} : g ∈ fpAw (awV c p e) ↔ p.ownBlock = some g ∨ e.ownBlock = some g := by
 show g ∈ p.ownBlock.toList ++ e.ownBlock.toList ↔ _
 simp [List.mem_append, Option.mem_toList]
theorem fpAw_lt {w : World} {base : Nat} {v : Value} {c : Aw} (h : OwnAw w base v c) : ∀ b ∈ fpAw v, base <= b /\ b < w.heap.size := by
 obtain ⟨p, e, rfl, h1, h2, _⟩ := h
 intro b hb
 rcases fpAw_mem.1 hb with h | h
 ·exact World.ownsRow.lt h1 b h
 ·exact World.ownsRow.lt h2 b h
theorem OwnAw.same {w w' : World} {base : Nat} {v : Value} {c : Aw} (h : OwnAw w base v c) (hs : ∀ g ∈ fpAw v, w'.heap[g]? = w.heap[g]?) : OwnAw w' base v c := by
 obtain ⟨p, e, rfl, h1, h2, h3⟩ := h
 exact ⟨p, e, rfl, row_same h1 fun g hg => hs g (fpAw_mem.2 (.inl hg)), row_same h2 fun g hg => hs g (fpAw_mem.2 (.inr hg)), h3⟩
def ArgAw (B : Nat) (w : World) (v : Value) (c : Aw) : Prop := ∃ pa pc ea ec, v = awV c (.slice pa c.path.length pc) (.slice ea c.lst.length ec) /\ ArgT B w pa c.path /\ ArgT B w ea c.lst
theorem ArgAw.below {B : Nat} {w w' : World} {v : Value} {c : Aw} (h : ArgAw B w v c) (hb : Below B w w') : ArgAw B w' v c := by
 obtain ⟨pa, pc, ea, ec, hv, h1, h2⟩ := h
 exact ⟨pa, pc, ea, ec, hv, h1.below hb, h2.below hb⟩
theorem ArgAw.mono {B B' : Nat} {w : World} {v : Value} {c : Aw} (h : ArgAw B w v c) (hB : B <= B') : ArgAw B' w v c := by
 obtain ⟨pa, pc, ea, ec, hv, h1, h2⟩ := h
 exact ⟨pa, pc, ea, ec, hv, fun j hj => by obtain ⟨x, o, h2, h3, h4⟩ := h1 j hj; exact ⟨x, o, h2, Nat.lt_of_lt_of_le h3 hB, h4⟩, fun j hj => by obtain ⟨x, o, h3, h4, h5⟩ := h2 j hj; exact ⟨x, o, h3, Nat.lt_of_lt_of_le h4 hB, h5⟩⟩
theorem ArgAw.shape {B : Nat} {w : World} {v : Value} {c : Aw} (h : ArgAw B w v c) : ∃ p q e r, v = awV c (.slice p c.path.length q) (.slice e c.lst.length r) := by
 obtain ⟨pa, pc, ea, ec, hv, _⟩ := h
 exact ⟨pa, pc, ea, ec, hv⟩
def wtAw (c : Aw) : Nat := totT c.path + totT c.lst
def WdAw (c : Aw) : Prop := Wd [c.status, c.why] /\ WdT c.path /\ WdT c.lst /\ c.path.length <= 9223372036854775807 /\ c.lst.length <= 9223372036854775807
def szAw (c : Aw) (left : Int) : Int := if (wtAw c : Int) <= left then left - wtAw c else -1
theorem wtAw_lens {c : Aw} {b : Nat} (h : wtAw c <= b) : c.path.length <= b /\ c.lst.length <= b := by
 have h1 := tot_len c.path
 have h2 := tot_len c.lst
 unfold wtAw at h
 omega
def awKd : Kd Aw where
 T := 84
 K := 4
 Own := OwnAw
 At := AwAt
 fp := fpAw
 pos := by decide
 size := fun h => by
  obtain ⟨p, e, rfl, h1, h2, _⟩ := h
  refine ⟨rfl, fun x hx => ?_⟩
  change x ∈ [_, _, _, _] at hx
  simp only [List.mem_cons, List.not_mem_nil, or_false] at hx
  rcases hx with rfl | rfl | rfl | rfl
  all_goals first | rfl | exact rowOne h1 | exact rowOne h2
 same := OwnAw.same
 lt := fpAw_lt
 base := OwnAw.base
 nodup := fun h => by
  obtain ⟨p, e, rfl, h1, h2, h3⟩ := h
  show (p.ownBlock.toList ++ e.ownBlock.toList).Nodup
  exact nodup_app (optNodup _) (optNodup _) fun y h7 h8 => ap_ne h3.1 (Option.mem_toList.1 h7) (Option.mem_toList.1 h8)
 own_at := OwnAw.at
 below := AwAt.below
def zeAw : Aw := ⟨0, 0, [], []⟩
def zeAwV : Value := .agg #[.int .i64 0, .int .i64 0, .slice none 0 0, .slice none 0 0]
theorem own_zeAw (w : World) (base : Nat) : OwnAw w base zeAwV zeAw := ⟨.slice none 0 0, .slice none 0 0, rfl, World.ownsRow_nil _ _ _ _, World.ownsRow_nil _ _ _ _, .inl rfl, .inl rfl⟩
theorem infoAns : (Try.prog.info? 84).map (fun i => (i.zero, i.size, i.bytes)) = some (some (.agg #[.int .i64 0, .int .i64 0, .slice none 0 0, .slice none 0 0]), 4, 64) := by kernel_rfl
def wtAS (l : List Aw) : Nat := l.length + (l.map wtAw).sum
theorem wtAS_mem : ∀ {l : List Aw} {c : Aw}, c ∈ l -> wtAw c <= wtAS l
 | c :: l, d, h => by
  rcases List.mem_cons.1 h with rfl | h
  ·unfold wtAS; simp; omega
  ·have := wtAS_mem h
   unfold wtAS at this |-
   simp
   omega
def ArgAS (B : Nat) (w : World) (v : Value) (l : List Aw) : Prop := RowS 4 B (ArgAw B w) w v l
theorem ArgAS.below {B : Nat} {w w' : World} {v : Value} {l : List Aw} (h : ArgAS B w v l) (hb : Below B w w') {B' : Nat} (hB : B <= B') : ArgAS B' w' v l := RowS.below h hb (fun _ _ hP => (hP.below hb).mono hB) hB
theorem fillAw_set {l : List Aw} {k : Nat} (hk : k < l.length) : (l.take k ++ List.replicate (l.length - k) zeAw).set k l[k] = l.take (k + 1) ++ List.replicate (l.length - (k + 1)) zeAw := by
 have e : (l.take k).length = k := by rw [List.length_take]; omega
 rw [List.set_append_right _ _ (by omega), e, Nat.sub_self, show l.length - k = (l.length - (k + 1)) + 1 by omega, List.replicate_succ, List.set_cons_zero, List.take_succ_eq_append_getElem hk, List.append_assoc]
 rfl
theorem fillAw_len {l : List Aw} {k : Nat} (hk : k <= l.length) : (l.take k ++ List.replicate (l.length - k) zeAw).length = l.length := by
 rw [List.length_append, List.length_take, List.length_replicate]
 omega
theorem OwnS.cellsAw {w : World} {base g n cap : Nat} {l : List Aw} {fp : List Nat} (h : OwnS awKd w base (.slice (some ⟨g, 0, none⟩) n cap) l fp) (hn : n = l.length) {j : Nat} (hj : j < l.length) :
  (∃ u, OwnAw w base u l[j] /\ (∀ b ∈ fpAw u, b ∈ fp /\ b ≠ g) /\ ∀ i x, u.cells[i]? = some x -> w.cell? ⟨g, j * 4 + i, none⟩ = some x) /\ ∀ i, w.frozen? ⟨g, i, none⟩ = false := by
 subst hn
 obtain ⟨vs, hl, hr, he, rfl, hnd⟩ := h
 have hsz := OwnS.sizes hl he
 refine ⟨⟨vs[j]'(by omega), he j (by omega) hj, fun b hb => ⟨List.mem_append_right _ (mem_flat (by omega) hb), fun e => ?_⟩, fun i x hx => ?_⟩, fun i => World.ownsRow.frozenAt hr i⟩
 ·subst e
  exact (List.nodup_append.1 hnd).2.2 b (by simp [Value.ownBlock]) b (mem_flat (by omega) hb) rfl
 ·have hi : i < 4 := by
   have := (Array.getElem?_eq_some_iff.1 hx).1
   rw [hsz _ (List.getElem_mem _)] at this
   exact this
  rw [World.ownsRow.cellAt hr _ (by show j * 4 + i < l.length * 4; omega)]
  exact (cellsV_at hsz j (by omega) i hi).trans hx
end Go.Proofs.Ytbiiihjohbnodaa
