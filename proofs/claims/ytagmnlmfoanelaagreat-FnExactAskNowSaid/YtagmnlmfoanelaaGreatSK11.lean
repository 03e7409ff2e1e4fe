/-
  Texts of the proof.
-/
import Derived.Deep.RegionHeld3
import Derived.Test.YtagmnlmfoanelaaGreatSK10
namespace Go.Proofs.YtagmnlmfoanelaaGreat
open Go.RowKit
set_option linter.unusedVariables false
structure Kx (α : Type) where
 T : TypeId
 K : Nat
 Own : World -> Nat -> Value -> α -> List Nat -> Prop
 At : World -> Value -> α -> Prop
 pos : 0 < K
 size : ∀ {w : World} {b : Nat} {v : Value} {c : α} {f : List Nat}, Own w b v c f -> v.cells.size = K /\ ∀ x ∈ v.cells.toList, x.oneCell' = true
 same : ∀ {w w' : World} {b : Nat} {v : Value} {c : α} {f : List Nat}, Own w b v c f -> (∀ g ∈ f, w'.heap[g]? = w.heap[g]?) -> Own w' b v c f
 lt : ∀ {w : World} {b : Nat} {v : Value} {c : α} {f : List Nat}, Own w b v c f -> ∀ g ∈ f, b <= g /\ g < w.heap.size
 base : ∀ {w : World} {b b' : Nat} {v : Value} {c : α} {f : List Nat}, Own w b v c f -> b' <= b -> Own w b' v c f
 nodup : ∀ {w : World} {b : Nat} {v : Value} {c : α} {f : List Nat}, Own w b v c f -> f.Nodup
 own_at : ∀ {w : World} {b : Nat} {v : Value} {c : α} {f : List Nat}, Own w b v c f -> At w v c
 below : ∀ {w w' : World} {v : Value} {c : α}, At w v c -> Below w.heap.size w w' -> At w' v c
def OwnX {α : Type} (k : Kx α) (w : World) (base : Nat) (v : Value) (l : List α) (fp : List Nat) : Prop :=
 ∃ (vs : List Value) (fs : List (List Nat)), vs.length = l.length /\ fs.length = l.length /\ w.ownsRow base k.T k.K v l.length (cellsV vs) /\ (∀ j (h1 : j < vs.length) (h2 : j < l.length) (h3 : j < fs.length), k.Own w base vs[j] l[j] fs[j]) /\ fp = v.ownBlock.toList ++ fs.flatten /\ fp.Nodup
def AtX {α : Type} (k : Kx α) (w : World) (v : Value) (l : List α) : Prop := RowS k.K w.heap.size (k.At w) w v l
theorem AtX.below {α : Type} {k : Kx α} {w w' : World} {v : Value} {l : List α} (h : AtX k w v l) (hb : Below w.heap.size w w') : AtX k w' v l := RowS.below h hb (fun _ _ hP => k.below hP hb) hb.size
theorem mem_flatten_get {fs : List (List Nat)} {b : Nat} (h : b ∈ fs.flatten) : ∃ j, ∃ hj : j < fs.length, b ∈ fs[j] := by
 obtain ⟨f, hf, hb⟩ := List.mem_flatten.1 h
 obtain ⟨j, hj, rfl⟩ := List.getElem_of_mem hf
 exact ⟨j, hj, hb⟩
theorem OwnX.lt {α : Type} {k : Kx α} {w : World} {base : Nat} {v : Value} {l : List α} {fp : List Nat} (h : OwnX k w base v l fp) : ∀ b ∈ fp, base <= b /\ b < w.heap.size := by
 obtain ⟨vs, fs, hl, hf, hr, he, rfl, hn⟩ := h
 intro b hb
 rcases List.mem_append.1 hb with hb | hb
 ·exact hr.lt b (Option.mem_toList.1 hb)
 ·obtain ⟨j, hj, hbj⟩ := mem_flatten_get hb
  exact k.lt (he j (by omega) (by omega) hj) b hbj
theorem OwnX.nodup {α : Type} {k : Kx α} {w : World} {base : Nat} {v : Value} {l : List α} {fp : List Nat} (h : OwnX k w base v l fp) : fp.Nodup := by
 obtain ⟨vs, fs, hl, hf, hr, he, hfp, hn⟩ := h
 exact hn
theorem OwnX.same {α : Type} {k : Kx α} {w w' : World} {base : Nat} {v : Value} {l : List α} {fp : List Nat} (h : OwnX k w base v l fp) (hs : ∀ b ∈ fp, w'.heap[b]? = w.heap[b]?) : OwnX k w' base v l fp := by
 obtain ⟨vs, fs, hl, hf, hr, he, rfl, hn⟩ := h
 exact ⟨vs, fs, hl, hf, row_same hr (fun g hg => hs g (List.mem_append_left _ (Option.mem_toList.2 hg))), fun j h1 h2 h3 => k.same (he j h1 h2 h3) fun g hg => hs g (List.mem_append_right _ (List.mem_flatten.2 ⟨_, List.getElem_mem h3, hg⟩)), rfl, hn⟩
theorem OwnX.stays {α : Type} {k : Kx α} {w w' : World} {base : Nat} {v : Value} {l : List α} {fp : List Nat} (h : OwnX k w base v l fp) (hb : Below w.heap.size w w') : OwnX k w' base v l fp := h.same fun b hm => hb.block b (h.lt b hm).2
theorem OwnX.out {α : Type} {k : Kx α} {w w' : World} {base : Nat} {v : Value} {l : List α} {fp fq : List Nat} (h : OwnX k w base v l fp) (ho : Out fq w w') (hn : ∀ b ∈ fp, b ∉ fq) : OwnX k w' base v l fp := h.same fun b hm => ho.2.2.2.2 b (h.lt b hm).2 (hn b hm)
theorem OwnX.base {α : Type} {k : Kx α} {w : World} {b b' : Nat} {v : Value} {l : List α} {fp : List Nat} (h : OwnX k w b v l fp) (hb : b' <= b) : OwnX k w b' v l fp := by
 obtain ⟨vs, fs, hl, hf, hr, he, hfp, hn⟩ := h
 refine ⟨vs, fs, hl, hf, ⟨hr.1, ?_⟩, fun j h1 h2 h3 => k.base (he j h1 h2 h3) hb, hfp, hn⟩
 rcases hr.2 with h2 | ⟨g, cap, cur, hv, hbg, r⟩
 ·exact .inl h2
 ·exact .inr ⟨g, cap, cur, hv, Nat.le_trans hb hbg, r⟩
theorem OwnX.sizes {α : Type} {k : Kx α} {w : World} {base : Nat} {l : List α} {vs : List Value} {fs : List (List Nat)} (hl : vs.length = l.length) (hf : fs.length = l.length) (he : ∀ j (h1 : j < vs.length) (h2 : j < l.length) (h3 : j < fs.length), k.Own w base vs[j] l[j] fs[j]) : ∀ v ∈ vs, v.cells.size = k.K := fun v hv => by
 obtain ⟨j, hj, rfl⟩ := List.getElem_of_mem hv
 exact (k.size (he j hj (by omega) (by omega))).1
theorem OwnX.at {α : Type} {k : Kx α} {w : World} {base : Nat} {v : Value} {l : List α} {fp : List Nat} (h : OwnX k w base v l fp) : AtX k w v l := by
 obtain ⟨vs, fs, hl, hf, hr, he, hfp, hn⟩ := h
 have hlt := hr.lt
 have hsz := OwnX.sizes hl hf he
 have hr' := hr
 rcases hr.2 with ⟨hv, h0⟩ | ⟨g, cap, cur, hv, hbg, hg, hnc, hcm, hcs, htk⟩
 ·exact ⟨none, 0, by rw [hv, h0], fun j hj => by omega⟩
 ·refine ⟨some ⟨g, 0, none⟩, cap, hv, fun j hj => ⟨g, 0, vs[j]'(by omega), rfl, (hlt g (by rw [hv]; rfl)).2, k.own_at (he j (by omega) hj (by omega)), hsz _ (List.getElem_mem _), fun i x hx => ?_⟩⟩
  have hi : i < k.K := by
   have := (Array.getElem?_eq_some_iff.1 hx).1
   rw [hsz _ (List.getElem_mem _)] at this
   exact this
  rw [hv] at hr'
  have hjK : j * k.K + i < l.length * k.K := by
   have := Nat.mul_le_mul_right k.K (show j + 1 <= l.length by omega)
   rw [Nat.succ_mul] at this
   omega
  rw [Nat.zero_add, World.ownsRow.cellAt hr' _ hjK, cellsV_at hsz j (by omega) i hi]
  exact hx
theorem OwnX.nil {α : Type} (k : Kx α) (w : World) (base : Nat) : OwnX k w base (.slice none 0 0) [] [] := ⟨[], [], rfl, rfl, World.ownsRow_nil _ _ _ _, fun j h => absurd h (Nat.not_lt_zero _), rfl, List.nodup_nil⟩
theorem OwnX.snoc {α : Type} {k : Kx α} {w w' : World} {base g cap : Nat} {v : Value} {l : List α} {vs : List Value} {fs : List (List Nat)} {u : Value} {c : α} {f : List Nat} (hl : vs.length = l.length) (hf : fs.length = l.length) (he : ∀ j (h1 : j < vs.length) (h2 : j < l.length) (h3 : j < fs.length), k.Own w base vs[j] l[j] fs[j]) (hn : (v.ownBlock.toList ++ fs.flatten).Nodup)
  (hu : k.Own w base u c f) (hd : ∀ b ∈ f, b ∉ v.ownBlock.toList ++ fs.flatten) (hown : w'.ownsRow base k.T k.K (.slice (some ⟨g, 0, none⟩) (l.length + 1) cap) (l.length + 1) (cellsV vs ++ u.cells.toList)) (hgrow : w.grownBy w' v.ownBlock) (hg : v.ownBlock = some g ∨ g = w.heap.size) :
  OwnX k w' base (.slice (some ⟨g, 0, none⟩) (l ++ [c]).length cap) (l ++ [c]) (g :: (fs ++ [f]).flatten) := by
 have old : ∀ y ∈ fs.flatten, y < w.heap.size := fun y hy => by
  obtain ⟨j, hj, hyj⟩ := mem_flatten_get hy
  exact (k.lt (he j (by omega) (by omega) hj) y hyj).2
 have new : ∀ y ∈ f, y < w.heap.size := fun y hy => (k.lt hu y hy).2
 have hn2 := (List.nodup_append.1 hn)
 have apart : ∀ y ∈ fs.flatten, v.ownBlock ≠ some y := fun y hy e => hn2.2.2 y (Option.mem_toList.2 e) y hy rfl
 have apart2 : ∀ y ∈ f, v.ownBlock ≠ some y := fun y hy e => hd y hy (List.mem_append_left _ (Option.mem_toList.2 e))
 refine ⟨vs ++ [u], fs ++ [f], by simp [hl], by simp [hf], ?_, ?_, rfl, ?_⟩
 ·rw [cellsV_append, List.length_append, List.length_singleton]
  show w'.ownsRow base k.T k.K _ _ (cellsV vs ++ (u.cells.toList ++ []))
  rw [List.append_nil]
  exact hown
 ·intro j h1 h2 h3
  by_cases hj : j < vs.length
  ·have e1 : (vs ++ [u])[j] = vs[j] := List.getElem_append_left hj
   have e2 : (l ++ [c])[j] = l[j]'(by omega) := List.getElem_append_left (by omega)
   have e3 : (fs ++ [f])[j] = fs[j]'(by omega) := List.getElem_append_left (by omega)
   rw [e1, e2, e3]
   refine k.same (he j hj (by omega) (by omega)) fun y hy => ?_
   have hy2 : y ∈ fs.flatten := List.mem_flatten.2 ⟨_, List.getElem_mem (by omega), hy⟩
   exact hgrow.block y (old y hy2) (fun e => apart y hy2 e.symm)
  ·have hj2 : j = vs.length := by simp at h1; omega
   subst hj2
   have e1 : (vs ++ [u])[vs.length] = u := by simp
   have e2 : (l ++ [c])[vs.length]'h2 = c := by simp [hl]
   have e3 : (fs ++ [f])[vs.length]'h3 = f := by simp [hl, hf]
   rw [e1, e2, e3]
   exact k.same hu fun y hy => hgrow.block y (new y hy) (fun e => apart2 y hy e.symm)
 ·show (g :: (fs ++ [f]).flatten).Nodup
  rw [List.nodup_cons, List.flatten_append, List.flatten_singleton]
  refine ⟨fun hm => ?_, nodup_app hn2.2.1 (k.nodup hu) fun y hy hy2 => hd y hy2 (List.mem_append_right _ hy)⟩
  rcases List.mem_append.1 hm with hm | hm
  ·rcases hg with hg | hg
   ·exact apart g hm hg
   ·have := old g hm; omega
  ·rcases hg with hg | hg
   ·exact apart2 g hm hg
   ·have := new g hm; omega
end Go.Proofs.YtagmnlmfoanelaaGreat
namespace Go.Proofs.YtagmnlmfoanelaaGreat
open Go.RowKit
set_option linter.unusedVariables false
set_option linter.unusedSimpArgs false
structure Aw where
 status : Int
 why : Int
 path : List ByteArray
 lst : List ByteArray
def awV (c : Aw) (p e : Value) : Value := .agg #[.int .i64 c.status, .int .i64 c.why, p, e]
def AwAt (w : World) (v : Value) (c : Aw) : Prop := ∃ p e, v = awV c p e /\ TxtAt w p c.path /\ TxtAt w e c.lst
theorem AwAt.below {w w' : World} {v : Value} {c : Aw} (h : AwAt w v c) (hb : Below w.heap.size w w') : AwAt w' v c := by
 obtain ⟨p, e, hv, h1, h2⟩ := h
 exact ⟨p, e, hv, h1.below hb, h2.below hb⟩
theorem AwAt.shape {w : World} {v : Value} {c : Aw} (h : AwAt w v c) : ∃ p q e r, v = awV c (.slice p c.path.length q) (.slice e c.lst.length r) := by
 obtain ⟨pv, ev, hv, ⟨p, q, h1, _⟩, ⟨e, r, h2, _⟩⟩ := h
 exact ⟨p, q, e, r, by rw [hv, h1, h2]⟩
def OwnAw (w : World) (base : Nat) (v : Value) (c : Aw) : Prop := ∃ p e, v = awV c p e /\ OwnT w base p c.path /\ OwnT w base e c.lst /\ (Ap p e /\ Ap e p)
theorem OwnAw.at {w : World} {base : Nat} {v : Value} {c : Aw} (h : OwnAw w base v c) : AwAt w v c := by
 obtain ⟨p, e, hv, h1, h2, _⟩ := h
 exact ⟨p, e, hv, h1.at, h2.at⟩
theorem OwnAw.stays {w w' : World} {base : Nat} {v : Value} {c : Aw} (h : OwnAw w base v c) (hb : Below w.heap.size w w') : OwnAw w' base v c := by
 obtain ⟨p, e, hv, h1, h2, h3⟩ := h
 exact ⟨p, e, hv, h1.stays hb, h2.stays hb, h3⟩
theorem OwnAw.base {w : World} {b b' : Nat} {v : Value} {c : Aw} (h : OwnAw w b v c) (hb : b' <= b) : OwnAw w b' v c := by
 obtain ⟨p, e, hv, h1, h2, h3⟩ := h
 exact ⟨p, e, hv, h1.base hb, h2.base hb, h3⟩
def fpAw (v : Value) : List Nat := match v with
 | .agg a => (a.getD 2 (.slice none 0 0)).ownBlock.toList ++ (a.getD 3 (.slice none 0 0)).ownBlock.toList
 | _ => []
theorem fpAw_mem {c : Aw} {p e : Value} {g : Nat} : g ∈ fpAw (awV c p e) ↔ p.ownBlock = some g ∨ e.ownBlock = some g := by
 show g ∈ p.ownBlock.toList ++ e.ownBlock.toList ↔ _
 simp [List.mem_append, Option.mem_toList]
theorem fpAw_lt {w : World} {base : Nat} {v : Value} {c : Aw} (h : OwnAw w base v c) : ∀ b ∈ fpAw v, base <= b /\ b < w.heap.size := by
 obtain ⟨p, e, rfl, h1, h2, _⟩ := h
 intro b hb
 rcases fpAw_mem.1 hb with h | h
 ·exact World.ownsRow.lt h1 b h
 ·exact World.ownsRow.lt h2 b h
theorem OwnAw.same {w w' : World} {base : Nat} {v : Value} {c : Aw} (h : OwnAw w base v c) (hs : ∀ g ∈ fpAw v, w'.heap[g]? = w.heap[g]?) : OwnAw w' base v c := by
 obtain ⟨p, e, rfl, h1, h2, h3⟩ := h
 exact ⟨p, e, rfl, row_same h1 fun g hg => hs g (fpAw_mem.2 (.inl hg)), row_same h2 fun g hg => hs g (fpAw_mem.2 (.inr hg)), h3⟩
def ArgAw (B : Nat) (w : World) (v : Value) (c : Aw) : Prop := ∃ pa pc ea ec, v = awV c (.slice pa c.path.length pc) (.slice ea c.lst.length ec) /\ ArgT B w pa c.path /\ ArgT B w ea c.lst
theorem ArgAw.below {B : Nat} {w w' : World} {v : Value} {c : Aw} (h : ArgAw B w v c) (hb : Below B w w') : ArgAw B w' v c := by
 obtain ⟨pa, pc, ea, ec, hv, h1, h2⟩ := h
 exact ⟨pa, pc, ea, ec, hv, h1.below hb, h2.below hb⟩
theorem ArgAw.mono {B B' : Nat} {w : World} {v : Value} {c : Aw} (h : ArgAw B w v c) (hB : B <= B') : ArgAw B' w v c := by
 obtain ⟨pa, pc, ea, ec, hv, h1, h2⟩ := h
 exact ⟨pa, pc, ea, ec, hv, fun j hj => by obtain ⟨x, o, h2, h3, h4⟩ := h1 j hj; exact ⟨x, o, h2, Nat.lt_of_lt_of_le h3 hB, h4⟩, fun j hj => by obtain ⟨x, o, h3, h4, h5⟩ := h2 j hj; exact ⟨x, o, h3, Nat.lt_of_lt_of_le h4 hB, h5⟩⟩
theorem ArgAw.shape {B : Nat} {w : World} {v : Value} {c : Aw} (h : ArgAw B w v c) : ∃ p q e r, v = awV c (.slice p c.path.length q) (.slice e c.lst.length r) := by
 obtain ⟨pa, pc, ea, ec, hv, _⟩ := h
 exact ⟨pa, pc, ea, ec, hv⟩
def wtAw (c : Aw) : Nat := totT c.path + totT c.lst
def WdAw (c : Aw) : Prop := Wd [c.status, c.why] /\ WdT c.path /\ WdT c.lst /\ c.path.length <= 9223372036854775807 /\ c.lst.length <= 9223372036854775807
def szAw (c : Aw) (left : Int) : Int := if (wtAw c : Int) <= left then left - wtAw c else -1
theorem wtAw_lens {c : Aw} {b : Nat} (h : wtAw c <= b) : c.path.length <= b /\ c.lst.length <= b := by
 have h1 := tot_len c.path
 have h2 := tot_len c.lst
 unfold wtAw at h
 omega
def awKd : Kd Aw where
 T := 103
 K := 4
 Own := OwnAw
 At := AwAt
 fp := fpAw
 pos := by decide
 size := fun h => by
  obtain ⟨p, e, rfl, h1, h2, _⟩ := h
  refine ⟨rfl, fun x hx => ?_⟩
  change x ∈ [_, _, _, _] at hx
  simp only [List.mem_cons, List.not_mem_nil, or_false] at hx
  rcases hx with rfl | rfl | rfl | rfl
  all_goals first | rfl | exact rowOne h1 | exact rowOne h2
 same := OwnAw.same
 lt := fpAw_lt
 base := OwnAw.base
 nodup := fun h => by
  obtain ⟨p, e, rfl, h1, h2, h3⟩ := h
  show (p.ownBlock.toList ++ e.ownBlock.toList).Nodup
  exact nodup_app (optNodup _) (optNodup _) fun y h7 h8 => ap_ne h3.1 (Option.mem_toList.1 h7) (Option.mem_toList.1 h8)
 own_at := OwnAw.at
 below := AwAt.below
def zeAw : Aw := ⟨0, 0, [], []⟩
def zeAwV : Value := .agg #[.int .i64 0, .int .i64 0, .slice none 0 0, .slice none 0 0]
theorem own_zeAw (w : World) (base : Nat) : OwnAw w base zeAwV zeAw := ⟨.slice none 0 0, .slice none 0 0, rfl, World.ownsRow_nil _ _ _ _, World.ownsRow_nil _ _ _ _, .inl rfl, .inl rfl⟩
theorem infoAns : (Tryz.prog.info? 103).map (fun i => (i.zero, i.size, i.bytes)) = some (some (.agg #[.int .i64 0, .int .i64 0, .slice none 0 0, .slice none 0 0]), 4, 64) := by kernel_rfl
def wtAS (l : List Aw) : Nat := l.length + (l.map wtAw).sum
theorem wtAS_mem : ∀ {l : List Aw} {c : Aw}, c ∈ l -> wtAw c <= wtAS l
 | c :: l, d, h => by
  rcases List.mem_cons.1 h with rfl | h
  ·unfold wtAS; simp; omega
  ·have := wtAS_mem h
   unfold wtAS at this |-
   simp
   omega
def ArgAS (B : Nat) (w : World) (v : Value) (l : List Aw) : Prop := RowS 4 B (ArgAw B w) w v l
theorem ArgAS.below {B : Nat} {w w' : World} {v : Value} {l : List Aw} (h : ArgAS B w v l) (hb : Below B w w') {B' : Nat} (hB : B <= B') : ArgAS B' w' v l := RowS.below h hb (fun _ _ hP => (hP.below hb).mono hB) hB
theorem fillAw_set {l : List Aw} {k : Nat} (hk : k < l.length) : (l.take k ++ List.replicate (l.length - k) zeAw).set k l[k] = l.take (k + 1) ++ List.replicate (l.length - (k + 1)) zeAw := by
 have e : (l.take k).length = k := by rw [List.length_take]; omega
 rw [List.set_append_right _ _ (by omega), e, Nat.sub_self, show l.length - k = (l.length - (k + 1)) + 1 by omega, List.replicate_succ, List.set_cons_zero, List.take_succ_eq_append_getElem hk, List.append_assoc]
 rfl
theorem fillAw_len {l : List Aw} {k : Nat} (hk : k <= l.length) : (l.take k ++ List.replicate (l.length - k) zeAw).length = l.length := by
 rw [List.length_append, List.length_take, List.length_replicate]
 omega
theorem OwnS.cellsAw {w : World} {base g n cap : Nat} {l : List Aw} {fp : List Nat} (h : OwnS awKd w base (.slice (some ⟨g, 0, none⟩) n cap) l fp) (hn : n = l.length) {j : Nat} (hj : j < l.length) :
  (∃ u, OwnAw w base u l[j] /\ (∀ b ∈ fpAw u, b ∈ fp /\ b ≠ g) /\ ∀ i x, u.cells[i]? = some x -> w.cell? ⟨g, j * 4 + i, none⟩ = some x) /\ ∀ i, w.frozen? ⟨g, i, none⟩ = false := by
 subst hn
 obtain ⟨vs, hl, hr, he, rfl, hnd⟩ := h
 have hsz := OwnS.sizes hl he
 refine ⟨⟨vs[j]'(by omega), he j (by omega) hj, fun b hb => ⟨List.mem_append_right _ (mem_flat (by omega) hb), fun e => ?_⟩, fun i x hx => ?_⟩, fun i => World.ownsRow.frozenAt hr i⟩
 ·subst e
  exact (List.nodup_append.1 hnd).2.2 b (by simp [Value.ownBlock]) b (mem_flat (by omega) hb) rfl
 ·have hi : i < 4 := by
   have := (Array.getElem?_eq_some_iff.1 hx).1
   rw [hsz _ (List.getElem_mem _)] at this
   exact this
  rw [World.ownsRow.cellAt hr _ (by show j * 4 + i < l.length * 4; omega)]
  exact (cellsV_at hsz j (by omega) i hi).trans hx
structure Rp where
 hash : ByteArray
 nonce : Int
 time : Int
 next : Int
 plan : Int
 err : Int
 ans : List Aw
 sig : ByteArray
def rpV (c : Rp) (p : Value) : Value := .agg #[.string c.hash, .int .i64 c.nonce, .int .i64 c.time, .int .i64 c.next, .int .i64 c.plan, .int .i64 c.err, p, .string c.sig]
def OwnRp (w : World) (base : Nat) (v : Value) (c : Rp) (fp : List Nat) : Prop := ∃ p, v = rpV c p /\ OwnS awKd w base p c.ans fp
def ArgRp (B : Nat) (w : World) (v : Value) (c : Rp) : Prop := ∃ pa pc, v = rpV c (.slice pa c.ans.length pc) /\ ArgAS B w (.slice pa c.ans.length pc) c.ans
def wtR (c : Rp) : Nat := c.hash.size + wtAS c.ans + c.sig.size
def WdRp (c : Rp) : Prop := Wd [c.nonce, c.time, c.next, c.plan, c.err] /\ WdT [c.hash, c.sig] /\ (∀ x ∈ c.ans, WdAw x) /\ c.ans.length <= 9223372036854775807
def szRp (c : Rp) (left : Int) : Int := if (wtR c : Int) <= left then left - wtR c else -1
theorem wtR_ans {c : Rp} {b : Nat} (h : wtR c <= b) : wtAS c.ans <= b := by unfold wtR at h; omega
theorem wtAS_len (l : List Aw) : l.length <= wtAS l := by unfold wtAS; omega
end Go.Proofs.YtagmnlmfoanelaaGreat
