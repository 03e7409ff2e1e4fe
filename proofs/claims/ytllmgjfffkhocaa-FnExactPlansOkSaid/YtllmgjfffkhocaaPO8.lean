/-
  Texts of the proof.
-/
import Derived.Test.YtllmgjfffkhocaaPO7
namespace Go.Proofs.Ytllmgjfffkhocaa
open Go.RowKit
set_option linter.unusedVariables false
structure Ru where
 time : Int
 pol : List Int
 expl : Bool
 chk : Bool
 usage : Int
def ruV (c : Ru) (p : Value) : Value := .agg #[.int .i64 c.time, p, .bool c.expl, .bool c.chk, .int .i64 c.usage]
def RuAt (w : World) (v : Value) (c : Ru) : Prop := ∃ p, v = ruV c p /\ IntAt w p c.pol
def OwnU (w : World) (base : Nat) (v : Value) (c : Ru) : Prop := ∃ p, v = ruV c p /\ OwnI w base p c.pol
def ArgU (B : Nat) (w : World) (v : Value) (c : Ru) : Prop := ∃ pa pc, v = ruV c (.slice pa c.pol.length pc) /\ ArgAt B w pa c.pol
theorem ArgU.mono {B B' : Nat} {w : World} {v : Value} {c : Ru} (h : ArgU B w v c) (hB : B <= B') : ArgU B' w v c := by
 obtain ⟨pa, pc, hv, h1⟩ := h
 exact ⟨pa, pc, hv, fun j hj => by obtain ⟨x, o, h2, h3, h4⟩ := h1 j hj; exact ⟨x, o, h2, Nat.lt_of_lt_of_le h3 hB, h4⟩⟩
def wtU (c : Ru) : Nat := c.pol.length
def WdU (c : Ru) : Prop := Wd [c.time, c.usage] /\ Wd c.pol /\ c.pol.length <= 9223372036854775807
def szU (c : Ru) (left : Int) : Int := if (wtU c : Int) <= left then left - wtU c else -1
end Go.Proofs.Ytllmgjfffkhocaa
namespace Go.Proofs.Ytllmgjfffkhocaa
open Go.RowKit
set_option linter.unusedVariables false
set_option linter.unusedSimpArgs false
theorem OwnC.same {w w' : World} {base : Nat} {v : Value} {c : Ct} (h : OwnC w base v c) (hs : ∀ g ∈ fpC v, w'.heap[g]? = w.heap[g]?) : OwnC w' base v c := by
 obtain ⟨p, e, d, rfl, h1, h2, h3, h4⟩ := h
 exact ⟨p, e, d, rfl, row_same h1 fun g hg => hs g (fpC_mem.2 (.inl hg)), row_same h2 fun g hg => hs g (fpC_mem.2 (.inr (.inl hg))), row_same h3 fun g hg => hs g (fpC_mem.2 (.inr (.inr hg))), h4⟩
theorem rowOne {w : World} {base t n : Nat} {s : Nat} {p : Value} {l : List Value} (h : w.ownsRow base t s p n l) : p.oneCell' = true := by
 rcases h.2 with ⟨rfl, _⟩ | ⟨g, cap, cur, rfl, _⟩ <;> rfl
theorem ap_ne {p e : Value} (h : Ap p e) {g : Nat} (h1 : p.ownBlock = some g) (h2 : e.ownBlock = some g) : False := by
 rcases h with h | h
 ·rw [h] at h1; cases h1
 ·exact h (h1.trans h2.symm)
theorem optNodup (o : Option Nat) : o.toList.Nodup := by cases o <;> simp
def certKd : Kd Ct where
 T := 112
 K := 13
 Own := OwnC
 At := CtAt
 fp := fpC
 pos := by decide
 size := fun h => by
  obtain ⟨p, e, d, rfl, h1, h2, h3, _⟩ := h
  refine ⟨rfl, fun x hx => ?_⟩
  change x ∈ [_, _, _, _, _, _, _, _, _, _, _, _, _] at hx
  simp only [List.mem_cons, List.not_mem_nil, or_false] at hx
  rcases hx with rfl | rfl | rfl | rfl | rfl | rfl | rfl | rfl | rfl | rfl | rfl | rfl | rfl
  all_goals first | rfl | exact rowOne h1 | exact rowOne h2 | exact rowOne h3
 same := OwnC.same
 lt := fpC_lt
 base := OwnC.base
 nodup := fun h => by
  obtain ⟨p, e, d, rfl, h1, h2, h3, h4, h5, h6⟩ := h
  show (p.ownBlock.toList ++ (e.ownBlock.toList ++ d.ownBlock.toList)).Nodup
  refine nodup_app (optNodup _) (nodup_app (optNodup _) (optNodup _) fun y h7 h8 => ap_ne h6.1 (Option.mem_toList.1 h7) (Option.mem_toList.1 h8)) fun y h7 h8 => ?_
  rcases List.mem_append.1 h8 with h8 | h8
  ·exact ap_ne h4.1 (Option.mem_toList.1 h7) (Option.mem_toList.1 h8)
  ·exact ap_ne h5.1 (Option.mem_toList.1 h7) (Option.mem_toList.1 h8)
 own_at := OwnC.at
 below := CtAt.below
def zeC : Ct := ⟨0, ⟨#[]⟩, ⟨#[]⟩, 0, 0, ⟨#[]⟩, false, 0, 0, [], [], [], ⟨#[]⟩⟩
def zeCV : Value := .agg #[.int .i64 0, .string ⟨#[]⟩, .string ⟨#[]⟩, .int .i64 0, .int .i64 0, .string ⟨#[]⟩, .bool false, .int .i64 0, .int .i64 0, .slice none 0 0, .slice none 0 0, .slice none 0 0, .string ⟨#[]⟩]
theorem own_zeC (w : World) (base : Nat) : OwnC w base zeCV zeC := ⟨.slice none 0 0, .slice none 0 0, .slice none 0 0, rfl, World.ownsRow_nil _ _ _ _, World.ownsRow_nil _ _ _ _, World.ownsRow_nil _ _ _ _, ⟨.inl rfl, .inl rfl⟩, ⟨.inl rfl, .inl rfl⟩, .inl rfl, .inl rfl⟩
theorem infoCert : (Try.prog.info? 112).map (fun i => (i.zero, i.size, i.bytes)) = some (some (.agg #[.int .i64 0, .string ⟨#[]⟩, .string ⟨#[]⟩, .int .i64 0, .int .i64 0, .string ⟨#[]⟩, .bool false, .int .i64 0, .int .i64 0, .slice none 0 0, .slice none 0 0, .slice none 0 0, .string ⟨#[]⟩]), 13, 184) := by kernel_rfl
def wtM (l : List Ct) : Nat := l.length + (l.map wtC).sum
theorem wtM_mem : ∀ {l : List Ct} {c : Ct}, c ∈ l -> wtC c <= wtM l
 | c :: l, d, h => by
  rcases List.mem_cons.1 h with rfl | h
  ·unfold wtM; simp; omega
  ·have := wtM_mem h
   unfold wtM at this |-
   simp
   omega
theorem sumM_take {l : List Nat} {k : Nat} (h : k < l.length) : (l.take (k + 1)).sum = (l.take k).sum + l[k] := by
 rw [List.take_add_one, List.sum_append, List.getElem?_eq_getElem h]
 simp
theorem sumM_take_le (l : List Nat) (k : Nat) : (l.take k).sum <= l.sum := by
 have h : (l.take k ++ l.drop k).sum = (l.take k).sum + (l.drop k).sum := List.sum_append
 rw [List.take_append_drop] at h
 omega
def ArgM (B : Nat) (w : World) (v : Value) (l : List Ct) : Prop := RowS 13 B (ArgC B w) w v l
theorem ArgM.below {B : Nat} {w w' : World} {v : Value} {l : List Ct} (h : ArgM B w v l) (hb : Below B w w') {B' : Nat} (hB : B <= B') : ArgM B' w' v l := RowS.below h hb (fun _ _ hP => (hP.below hb).mono hB) hB
theorem fillM_set {l : List Ct} {k : Nat} (hk : k < l.length) : (l.take k ++ List.replicate (l.length - k) zeC).set k l[k] = l.take (k + 1) ++ List.replicate (l.length - (k + 1)) zeC := by
 have e : (l.take k).length = k := by rw [List.length_take]; omega
 rw [List.set_append_right _ _ (by omega), e, Nat.sub_self, show l.length - k = (l.length - (k + 1)) + 1 by omega, List.replicate_succ, List.set_cons_zero, List.take_succ_eq_append_getElem hk, List.append_assoc]
 rfl
theorem fillM_len {l : List Ct} {k : Nat} (hk : k <= l.length) : (l.take k ++ List.replicate (l.length - k) zeC).length = l.length := by
 rw [List.length_append, List.length_take, List.length_replicate]
 omega
theorem OwnS.cellsM {w : World} {base g n cap : Nat} {l : List Ct} {fp : List Nat} (h : OwnS certKd w base (.slice (some ⟨g, 0, none⟩) n cap) l fp) (hn : n = l.length) {j : Nat} (hj : j < l.length) :
  (∃ u, OwnC w base u l[j] /\ (∀ b ∈ fpC u, b ∈ fp /\ b ≠ g) /\ ∀ i x, u.cells[i]? = some x -> w.cell? ⟨g, j * 13 + i, none⟩ = some x) /\ ∀ i, w.frozen? ⟨g, i, none⟩ = false := by
 subst hn
 obtain ⟨vs, hl, hr, he, rfl, hnd⟩ := h
 have hsz := OwnS.sizes hl he
 refine ⟨⟨vs[j]'(by omega), he j (by omega) hj, fun b hb => ⟨List.mem_append_right _ (mem_flat (by omega) hb), fun e => ?_⟩, fun i x hx => ?_⟩, fun i => World.ownsRow.frozenAt hr i⟩
 ·subst e
  exact (List.nodup_append.1 hnd).2.2 b (by simp [Value.ownBlock]) b (mem_flat (by omega) hb) rfl
 ·have hi : i < 13 := by
   have := (Array.getElem?_eq_some_iff.1 hx).1
   rw [hsz _ (List.getElem_mem _)] at this
   exact this
  rw [World.ownsRow.cellAt hr _ (by show j * 13 + i < l.length * 13; omega)]
  exact (cellsV_at hsz j (by omega) i hi).trans hx
theorem ArgC.shape {B : Nat} {w : World} {v : Value} {c : Ct} (h : ArgC B w v c) : ∃ p q e r d s, v = ctV c (.slice p c.pol.length q) (.slice e c.per.length r) (.slice d c.den.length s) := by
 obtain ⟨pa, pc, ea, ec, da, dc, hv, _⟩ := h
 exact ⟨pa, pc, ea, ec, da, dc, hv⟩
structure Pn where
 id : Int
 anc : List Int
 ru : Ru
def pnV (c : Pn) (p e : Value) : Value := .agg #[.int .i64 c.id, p, .int .i64 c.ru.time, e, .bool c.ru.expl, .bool c.ru.chk, .int .i64 c.ru.usage]
def PnAt (w : World) (v : Value) (c : Pn) : Prop := ∃ p e, v = pnV c p e /\ IntAt w p c.anc /\ IntAt w e c.ru.pol
theorem PnAt.below {w w' : World} {v : Value} {c : Pn} (h : PnAt w v c) (hb : Below w.heap.size w w') : PnAt w' v c := by
 obtain ⟨p, e, hv, h1, h2⟩ := h
 exact ⟨p, e, hv, h1.below hb, h2.below hb⟩
theorem PnAt.shape {w : World} {v : Value} {c : Pn} (h : PnAt w v c) : ∃ p q e r, v = pnV c (.slice p c.anc.length q) (.slice e c.ru.pol.length r) := by
 obtain ⟨pv, ev, hv, ⟨p, q, h1, _⟩, ⟨e, r, h2, _⟩⟩ := h
 exact ⟨p, q, e, r, by rw [hv, h1, h2]⟩
def OwnPn (w : World) (base : Nat) (v : Value) (c : Pn) : Prop := ∃ p e, v = pnV c p e /\ OwnI w base p c.anc /\ OwnI w base e c.ru.pol /\ (Ap p e /\ Ap e p)
theorem OwnPn.at {w : World} {base : Nat} {v : Value} {c : Pn} (h : OwnPn w base v c) : PnAt w v c := by
 obtain ⟨p, e, hv, h1, h2, _⟩ := h
 exact ⟨p, e, hv, h1.at, h2.at⟩
theorem OwnPn.base {w : World} {b b' : Nat} {v : Value} {c : Pn} (h : OwnPn w b v c) (hb : b' <= b) : OwnPn w b' v c := by
 obtain ⟨p, e, hv, h1, h2, h3⟩ := h
 exact ⟨p, e, hv, h1.base hb, h2.base hb, h3⟩
def fpPn (v : Value) : List Nat := match v with
 | .agg a => (a.getD 1 (.slice none 0 0)).ownBlock.toList ++ (a.getD 3 (.slice none 0 0)).ownBlock.toList
 | _ => []
theorem fpPn_mem {c : Pn} {p e : Value} {g : Nat} : g ∈ fpPn (pnV c p e) ↔ p.ownBlock = some g ∨ e.ownBlock = some g := by
 show g ∈ p.ownBlock.toList ++ e.ownBlock.toList ↔ _
 simp [List.mem_append, Option.mem_toList]
theorem fpPn_lt {w : World} {base : Nat} {v : Value} {c : Pn} (h : OwnPn w base v c) : ∀ b ∈ fpPn v, base <= b /\ b < w.heap.size := by
 obtain ⟨p, e, rfl, h1, h2, _⟩ := h
 intro b hb
 rcases fpPn_mem.1 hb with h | h
 ·exact World.ownsRow.lt h1 b h
 ·exact World.ownsRow.lt h2 b h
theorem OwnPn.same {w w' : World} {base : Nat} {v : Value} {c : Pn} (h : OwnPn w base v c) (hs : ∀ g ∈ fpPn v, w'.heap[g]? = w.heap[g]?) : OwnPn w' base v c := by
 obtain ⟨p, e, rfl, h1, h2, h3⟩ := h
 exact ⟨p, e, rfl, row_same h1 fun g hg => hs g (fpPn_mem.2 (.inl hg)), row_same h2 fun g hg => hs g (fpPn_mem.2 (.inr hg)), h3⟩
def ArgPn (B : Nat) (w : World) (v : Value) (c : Pn) : Prop := ∃ pa pc ea ec, v = pnV c (.slice pa c.anc.length pc) (.slice ea c.ru.pol.length ec) /\ ArgAt B w pa c.anc /\ ArgAt B w ea c.ru.pol
theorem ArgPn.below {B : Nat} {w w' : World} {v : Value} {c : Pn} (h : ArgPn B w v c) (hb : Below B w w') : ArgPn B w' v c := by
 obtain ⟨pa, pc, ea, ec, hv, h1, h2⟩ := h
 exact ⟨pa, pc, ea, ec, hv, h1.below hb, h2.below hb⟩
theorem ArgPn.mono {B B' : Nat} {w : World} {v : Value} {c : Pn} (h : ArgPn B w v c) (hB : B <= B') : ArgPn B' w v c := by
 obtain ⟨pa, pc, ea, ec, hv, h1, h2⟩ := h
 exact ⟨pa, pc, ea, ec, hv, fun j hj => by obtain ⟨x, o, h2, h3, h4⟩ := h1 j hj; exact ⟨x, o, h2, Nat.lt_of_lt_of_le h3 hB, h4⟩, fun j hj => by obtain ⟨x, o, h3, h4, h5⟩ := h2 j hj; exact ⟨x, o, h3, Nat.lt_of_lt_of_le h4 hB, h5⟩⟩
theorem ArgPn.shape {B : Nat} {w : World} {v : Value} {c : Pn} (h : ArgPn B w v c) : ∃ p q e r, v = pnV c (.slice p c.anc.length q) (.slice e c.ru.pol.length r) := by
 obtain ⟨pa, pc, ea, ec, hv, _⟩ := h
 exact ⟨pa, pc, ea, ec, hv⟩
def wtPn (c : Pn) : Nat := c.anc.length + c.ru.pol.length
def WdPn (c : Pn) : Prop := Wd [c.id, c.ru.time, c.ru.usage] /\ Wd c.anc /\ Wd c.ru.pol /\ c.anc.length <= 9223372036854775807 /\ c.ru.pol.length <= 9223372036854775807
def szPn (c : Pn) (left : Int) : Int := if (wtPn c : Int) <= left then left - wtPn c else -1
theorem wtPn_lens {c : Pn} {b : Nat} (h : wtPn c <= b) : c.anc.length <= b /\ c.ru.pol.length <= b := by
 unfold wtPn at h
 omega
def pnKd : Kd Pn where
 T := 57
 K := 7
 Own := OwnPn
 At := PnAt
 fp := fpPn
 pos := by decide
 size := fun h => by
  obtain ⟨p, e, rfl, h1, h2, _⟩ := h
  refine ⟨rfl, fun x hx => ?_⟩
  change x ∈ [_, _, _, _, _, _, _] at hx
  simp only [List.mem_cons, List.not_mem_nil, or_false] at hx
  rcases hx with rfl | rfl | rfl | rfl | rfl | rfl | rfl
  all_goals first | rfl | exact rowOne h1 | exact rowOne h2
 same := OwnPn.same
 lt := fpPn_lt
 base := OwnPn.base
 nodup := fun h => by
  obtain ⟨p, e, rfl, h1, h2, h3⟩ := h
  show (p.ownBlock.toList ++ e.ownBlock.toList).Nodup
  exact nodup_app (optNodup _) (optNodup _) fun y h7 h8 => ap_ne h3.1 (Option.mem_toList.1 h7) (Option.mem_toList.1 h8)
 own_at := OwnPn.at
 below := PnAt.below
def zePn : Pn := ⟨0, [], ⟨0, [], false, false, 0⟩⟩
def zePnV : Value := .agg #[.int .i64 0, .slice none 0 0, .int .i64 0, .slice none 0 0, .bool false, .bool false, .int .i64 0]
theorem own_zePn (w : World) (base : Nat) : OwnPn w base zePnV zePn := ⟨.slice none 0 0, .slice none 0 0, rfl, World.ownsRow_nil _ _ _ _, World.ownsRow_nil _ _ _ _, .inl rfl, .inl rfl⟩
theorem infoPlan : (Try.prog.info? 57).map (fun i => (i.zero, i.size, i.bytes)) = some (some (.agg #[.int .i64 0, .slice none 0 0, .int .i64 0, .slice none 0 0, .bool false, .bool false, .int .i64 0]), 7, 80) := by kernel_rfl
def wtPS (l : List Pn) : Nat := l.length + (l.map wtPn).sum
theorem wtPS_mem : ∀ {l : List Pn} {c : Pn}, c ∈ l -> wtPn c <= wtPS l
 | c :: l, d, h => by
  rcases List.mem_cons.1 h with rfl | h
  ·unfold wtPS; simp; omega
  ·have := wtPS_mem h
   unfold wtPS at this |-
   simp
   omega
def ArgPS (B : Nat) (w : World) (v : Value) (l : List Pn) : Prop := RowS 7 B (ArgPn B w) w v l
theorem ArgPS.below {B : Nat} {w w' : World} {v : Value} {l : List Pn} (h : ArgPS B w v l) (hb : Below B w w') {B' : Nat} (hB : B <= B') : ArgPS B' w' v l := RowS.below h hb (fun _ _ hP => (hP.below hb).mono hB) hB
theorem fillPn_set {l : List Pn} {k : Nat} (hk : k < l.length) : (l.take k ++ List.replicate (l.length - k) zePn).set k l[k] = l.take (k + 1) ++ List.replicate (l.length - (k + 1)) zePn := by
 have e : (l.take k).length = k := by rw [List.length_take]; omega
 rw [List.set_append_right _ _ (by omega), e, Nat.sub_self, show l.length - k = (l.length - (k + 1)) + 1 by omega, List.replicate_succ, List.set_cons_zero, List.take_succ_eq_append_getElem hk, List.append_assoc]
 rfl
theorem fillPn_len {l : List Pn} {k : Nat} (hk : k <= l.length) : (l.take k ++ List.replicate (l.length - k) zePn).length = l.length := by
 rw [List.length_append, List.length_take, List.length_replicate]
 omega
theorem OwnS.cellsPn {w : World} {base g n cap : Nat} {l : List Pn} {fp : List Nat} (h : OwnS pnKd w base (.slice (some ⟨g, 0, none⟩) n cap) l fp) (hn : n = l.length) {j : Nat} (hj : j < l.length) :
  (∃ u, OwnPn w base u l[j] /\ (∀ b ∈ fpPn u, b ∈ fp /\ b ≠ g) /\ ∀ i x, u.cells[i]? = some x -> w.cell? ⟨g, j * 7 + i, none⟩ = some x) /\ ∀ i, w.frozen? ⟨g, i, none⟩ = false := by
 subst hn
 obtain ⟨vs, hl, hr, he, rfl, hnd⟩ := h
 have hsz := OwnS.sizes hl he
 refine ⟨⟨vs[j]'(by omega), he j (by omega) hj, fun b hb => ⟨List.mem_append_right _ (mem_flat (by omega) hb), fun e => ?_⟩, fun i x hx => ?_⟩, fun i => World.ownsRow.frozenAt hr i⟩
 ·subst e
  exact (List.nodup_append.1 hnd).2.2 b (by simp [Value.ownBlock]) b (mem_flat (by omega) hb) rfl
 ·have hi : i < 7 := by
   have := (Array.getElem?_eq_some_iff.1 hx).1
   rw [hsz _ (List.getElem_mem _)] at this
   exact this
  rw [World.ownsRow.cellAt hr _ (by show j * 7 + i < l.length * 7; omega)]
  exact (cellsV_at hsz j (by omega) i hi).trans hx
end Go.Proofs.Ytllmgjfffkhocaa
