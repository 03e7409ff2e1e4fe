/-
  Texts of the proof.
-/
import Derived.Test.YtllmgjfffkhocaaTR12
set_option maxRecDepth 100000
namespace Go.Proofs.Ytllmgjfffkhocaa
open Go.RowKit
set_option linter.unusedVariables false
theorem pickC {n : Nat} {P : Nat -> Ct -> Prop} (h : ∀ j, j < n -> ∃ y, P j y) : ∃ l : List Ct, ∃ hl : l.length = n, ∀ j (hj : j < l.length), P j l[j] := by
 induction n with
 | zero => exact ⟨[], rfl, fun j hj => absurd hj (Nat.not_lt_zero _)⟩
 | succ n ih =>
  obtain ⟨l, hl, hP⟩ := ih fun j hj => h j (by omega)
  obtain ⟨y, hy⟩ := h n (by omega)
  refine ⟨l ++ [y], by simp [hl], fun j hj => ?_⟩
  by_cases e : j < l.length
  ·rw [List.getElem_append_left e]
   exact hP j e
  ·have e2 : j = l.length := by simp at hj; omega
   subst e2
   simpa [hl] using hy
theorem certs_in {H : Type} {enc : TypeId × Value -> H} {W : World} {fuel : Nat} {cs : List Value} {x : DataW H × List MemPlace} (h : DataW.trod enc Try.prog W 0 (fun _ => true) true fuel 23 cs = some x) :
  ∃ ao cap, ∃ l : List Ct, cs = [.slice ao l.length cap] /\ l.length <= maxLen /\ (∀ c ∈ l, WdC c) /\ ArgM W.heap.size W (.slice ao l.length cap) l := by
 rcases DataW.trod_slice Try.underlying23 h with ⟨h0, _⟩ | ⟨a, len, cap, elems, rest, q, hq, hc, _, hb, hlc, hcm, hel, helem, _, _⟩
 ·exact ⟨none, 0, [], h0, Nat.zero_le _, fun x hx => by simp at hx, none, 0, rfl, fun j hj => by simp at hj⟩
 ·have each : ∀ j, j < len -> ∃ c : Ct, ∃ u : Value, ArgC W.heap.size W u c /\ WdC c /\ u.cells.size = 13 /\ ∀ i x, u.cells[i]? = some x -> W.cell? (a.add (j * 13 + i)) = some x := by
   intro j hj
   have he := helem j hj
   rw [cellsCert] at he
   obtain ⟨z, hz⟩ : ∃ z, elems[j]? = some z := ⟨elems[j]'(by omega), by simp [show j < elems.length by omega]⟩
   rw [hz, Option.bind_eq_some_iff] at he
   obtain ⟨cs2, hcs2, htr⟩ := he
   obtain ⟨c, p, e, d, hv, harg, hwd⟩ := cert_of_trod htr
   have hsome := World.cells?_some hcs2
   refine ⟨c, ctV c p e d, harg, hwd, rfl, fun i x hx => ?_⟩
   have hcl : (ctV c p e d).cells = cs2.toArray := by rw [<- hv]; rfl
   rw [hcl] at hx
   have hi : i < cs2.length := by have := (Array.getElem?_eq_some_iff.1 hx).1; simpa using this
   have h3 := hsome.2.2 i (by omega)
   rw [Addr.add_add] at h3
   rw [h3]
   simpa using hx
  obtain ⟨l, hl, hP⟩ := pickC each
  refine ⟨some a, cap, l, by rw [hl]; exact hc, by rw [hl]; exact Nat.le_trans hlc hcm, fun y hy => ?_, some a, cap, rfl, fun j hj => ?_⟩
  ·obtain ⟨j, hj, rfl⟩ := List.getElem_of_mem hy
   obtain ⟨u, _, h2, _⟩ := hP j hj
   exact h2
  ·obtain ⟨u, h1, h2, h3, h4⟩ := hP j hj
   obtain ⟨x0, hx0⟩ : ∃ x, u.cells[0]? = some x := ⟨u.cells[0]'(by omega), Array.getElem?_eq_getElem _⟩
   have c0 := h4 0 x0 hx0
   obtain ⟨u', _, _, g3, g4⟩ := hP 0 (by omega)
   obtain ⟨y0, hy0⟩ : ∃ x, u'.cells[0]? = some x := ⟨u'.cells[0]'(by omega), Array.getElem?_eq_getElem _⟩
   have d0 := g4 0 y0 hy0
   obtain ⟨b, off, spot⟩ := a
   have hspot : spot = none := by simpa [Addr.add] using World.cell?_spot d0
   subst hspot
   rw [Addr.add_lit] at c0
   refine ⟨b, off, u, rfl, lt_of_cell c0, h1, h3, fun i x hx => ?_⟩
   have := h4 i x hx
   rw [Addr.add_lit, <- Nat.add_assoc] at this
   exact this
theorem pickL {n : Nat} {P : Nat -> Cl -> Prop} (h : ∀ j, j < n -> ∃ y, P j y) : ∃ l : List Cl, ∃ hl : l.length = n, ∀ j (hj : j < l.length), P j l[j] := by
 induction n with
 | zero => exact ⟨[], rfl, fun j hj => absurd hj (Nat.not_lt_zero _)⟩
 | succ n ih =>
  obtain ⟨l, hl, hP⟩ := ih fun j hj => h j (by omega)
  obtain ⟨y, hy⟩ := h n (by omega)
  refine ⟨l ++ [y], by simp [hl], fun j hj => ?_⟩
  by_cases e : j < l.length
  ·rw [List.getElem_append_left e]
   exact hP j e
  ·have e2 : j = l.length := by simp at hj; omega
   subst e2
   simpa [hl] using hy
theorem crls_in {H : Type} {enc : TypeId × Value -> H} {W : World} {fuel : Nat} {cs : List Value} {x : DataW H × List MemPlace} (h : DataW.trod enc Try.prog W 0 (fun _ => true) true fuel 24 cs = some x) :
  ∃ ao cap, ∃ l : List Cl, cs = [.slice ao l.length cap] /\ l.length <= maxLen /\ (∀ c ∈ l, WdL c) /\ ArgS W.heap.size W (.slice ao l.length cap) l := by
 rcases DataW.trod_slice Try.underlying24 h with ⟨h0, _⟩ | ⟨a, len, cap, elems, rest, q, hq, hc, _, hb, hlc, hcm, hel, helem, _, _⟩
 ·exact ⟨none, 0, [], h0, Nat.zero_le _, fun x hx => by simp at hx, none, 0, rfl, fun j hj => by simp at hj⟩
 ·have each : ∀ j, j < len -> ∃ c : Cl, ∃ u : Value, ArgL W.heap.size W u c /\ WdL c /\ u.cells.size = 7 /\ ∀ i x, u.cells[i]? = some x -> W.cell? (a.add (j * 7 + i)) = some x := by
   intro j hj
   have he := helem j hj
   rw [cellsCrl] at he
   obtain ⟨z, hz⟩ : ∃ z, elems[j]? = some z := ⟨elems[j]'(by omega), by simp [show j < elems.length by omega]⟩
   rw [hz, Option.bind_eq_some_iff] at he
   obtain ⟨cs2, hcs2, htr⟩ := he
   obtain ⟨c, p, hv, harg, hwd⟩ := crl_of_trod htr
   have hsome := World.cells?_some hcs2
   refine ⟨c, clV c p, harg, hwd, rfl, fun i x hx => ?_⟩
   have hcl : (clV c p).cells = cs2.toArray := by rw [<- hv]; rfl
   rw [hcl] at hx
   have hi : i < cs2.length := by have := (Array.getElem?_eq_some_iff.1 hx).1; simpa using this
   have h3 := hsome.2.2 i (by omega)
   rw [Addr.add_add] at h3
   rw [h3]
   simpa using hx
  obtain ⟨l, hl, hP⟩ := pickL each
  refine ⟨some a, cap, l, by rw [hl]; exact hc, by rw [hl]; exact Nat.le_trans hlc hcm, fun y hy => ?_, some a, cap, rfl, fun j hj => ?_⟩
  ·obtain ⟨j, hj, rfl⟩ := List.getElem_of_mem hy
   obtain ⟨u, _, h2, _⟩ := hP j hj
   exact h2
  ·obtain ⟨u, h1, h2, h3, h4⟩ := hP j hj
   obtain ⟨x0, hx0⟩ : ∃ x, u.cells[0]? = some x := ⟨u.cells[0]'(by omega), Array.getElem?_eq_getElem _⟩
   have c0 := h4 0 x0 hx0
   obtain ⟨u', _, _, g3, g4⟩ := hP 0 (by omega)
   obtain ⟨y0, hy0⟩ : ∃ x, u'.cells[0]? = some x := ⟨u'.cells[0]'(by omega), Array.getElem?_eq_getElem _⟩
   have d0 := g4 0 y0 hy0
   obtain ⟨b, off, spot⟩ := a
   have hspot : spot = none := by simpa [Addr.add] using World.cell?_spot d0
   subst hspot
   rw [Addr.add_lit] at c0
   refine ⟨b, off, u, rfl, lt_of_cell c0, h1, h3, fun i x hx => ?_⟩
   have := h4 i x hx
   rw [Addr.add_lit, <- Nat.add_assoc] at this
   exact this
end Go.Proofs.Ytllmgjfffkhocaa
namespace Go.Proofs.Ytllmgjfffkhocaa
open Go.RowKit Go.ChangeShapes
set_option linter.unusedVariables false
theorem sizeSet (w : World) (p : Addr) (v : Value) : w.heap.size <= (w.setCell p v).heap.size := ((Below.refl 0 w).setCell (p := p) (Nat.zero_le _) v).size
structure So where
 certs : List Ct
 crls : List Cl
 ancs : List An
def SoAt (w : World) (v : Value) (s : So) : Prop := ∃ p q r, v = .agg #[p, q, r] /\ AtS certKd w p s.certs /\ AtS crlKd w q s.crls /\ AtS anKd w r s.ancs
theorem SoAt.shape {w : World} {v : Value} {s : So} (h : SoAt w v s) : ∃ a1 c1 a2 c2 a3 c3, v = .agg #[.slice a1 s.certs.length c1, .slice a2 s.crls.length c2, .slice a3 s.ancs.length c3] := by
 obtain ⟨p, q, r, hv, h1, h2, h3⟩ := h
 obtain ⟨a1, c1, hp⟩ := h1.shape
 obtain ⟨a2, c2, hq⟩ := h2.shape
 obtain ⟨a3, c3, hr⟩ := h3.shape
 exact ⟨a1, c1, a2, c2, a3, c3, by rw [hv, hp, hq, hr]⟩
theorem SoAt.rows {w : World} {p q r : Value} {s : So} (h : SoAt w (.agg #[p, q, r]) s) : AtS certKd w p s.certs /\ AtS crlKd w q s.crls /\ AtS anKd w r s.ancs := by
 obtain ⟨p', q', r', hv, h1⟩ := h
 injection hv with hv
 injection hv with hv
 injection hv with e1 hv
 injection hv with e2 hv
 injection hv with e3 hv
 rw [e1, e2, e3]
 exact h1
def OwnO (w : World) (base : Nat) (v : Value) (s : So) (fp : List Nat) : Prop := ∃ p q r f1 f2 f3, v = .agg #[p, q, r] /\ OwnS certKd w base p s.certs f1 /\ OwnS crlKd w base q s.crls f2 /\ OwnS anKd w base r s.ancs f3 /\ fp = f1 ++ (f2 ++ f3) /\ fp.Nodup
theorem OwnO.at {w : World} {base : Nat} {v : Value} {s : So} {fp : List Nat} (h : OwnO w base v s fp) : SoAt w v s := by
 obtain ⟨p, q, r, f1, f2, f3, hv, h1, h2, h3, _, _⟩ := h
 exact ⟨p, q, r, hv, h1.at, h2.at, h3.at⟩
theorem OwnO.same {w w' : World} {base : Nat} {v : Value} {s : So} {fp : List Nat} (h : OwnO w base v s fp) (hs : ∀ b ∈ fp, w'.heap[b]? = w.heap[b]?) : OwnO w' base v s fp := by
 obtain ⟨p, q, r, f1, f2, f3, hv, h1, h2, h3, rfl, hn⟩ := h
 exact ⟨p, q, r, f1, f2, f3, hv, h1.same fun b hb => hs b (List.mem_append_left _ hb), h2.same fun b hb => hs b (List.mem_append_right _ (List.mem_append_left _ hb)), h3.same fun b hb => hs b (List.mem_append_right _ (List.mem_append_right _ hb)), rfl, hn⟩
theorem OwnO.lt {w : World} {base : Nat} {v : Value} {s : So} {fp : List Nat} (h : OwnO w base v s fp) : ∀ b ∈ fp, base <= b /\ b < w.heap.size := by
 obtain ⟨p, q, r, f1, f2, f3, hv, h1, h2, h3, rfl, hn⟩ := h
 intro b hb
 rcases List.mem_append.1 hb with hb | hb
 ·exact h1.lt b hb
 ·rcases List.mem_append.1 hb with hb | hb
  ·exact h2.lt b hb
  ·exact h3.lt b hb
theorem OwnO.stays {w w' : World} {base : Nat} {v : Value} {s : So} {fp : List Nat} (h : OwnO w base v s fp) (hb : Below w.heap.size w w') : OwnO w' base v s fp := h.same fun b hm => hb.block b (h.lt b hm).2
theorem OwnO.out {w w' : World} {base : Nat} {v : Value} {s : So} {fp fq : List Nat} (h : OwnO w base v s fp) (ho : Out fq w w') (hn : ∀ b ∈ fp, b ∉ fq) : OwnO w' base v s fp := h.same fun b hm => ho.2.2.2.2 b (h.lt b hm).2 (hn b hm)
def ArgO (B : Nat) (w : World) (v : Value) (s : So) : Prop := ∃ a1 c1 a2 c2 a3 c3, v = .agg #[.slice a1 s.certs.length c1, .slice a2 s.crls.length c2, .slice a3 s.ancs.length c3] /\ ArgM B w (.slice a1 s.certs.length c1) s.certs /\ ArgS B w (.slice a2 s.crls.length c2) s.crls /\ ArgN B w (.slice a3 s.ancs.length c3) s.ancs
theorem ArgO.below {B : Nat} {w w' : World} {v : Value} {s : So} (h : ArgO B w v s) (hb : Below B w w') {B' : Nat} (hB : B <= B') : ArgO B' w' v s := by
 obtain ⟨a1, c1, a2, c2, a3, c3, hv, h1, h2, h3⟩ := h
 exact ⟨a1, c1, a2, c2, a3, c3, hv, h1.below hb hB, h2.below hb hB, h3.below hb hB⟩
def wtO (s : So) : Nat := wtM s.certs + wtS s.crls + wtN s.ancs
def WdO (s : So) : Prop := ((∀ c ∈ s.certs, WdC c) /\ s.certs.length <= 9223372036854775807) /\ ((∀ c ∈ s.crls, WdL c) /\ s.crls.length <= 9223372036854775807) /\ (∀ c ∈ s.ancs, WdA c) /\ s.ancs.length <= 9223372036854775807
def szO (s : So) (left : Int) : Int := if (wtO s : Int) <= left then left - (wtO s : Int) else -1
theorem cellsStore : Try.prog.cellsOf 27 = 3 := by kernel_rfl
theorem cellsRow1 : Try.prog.cellsOf 23 = 1 := by kernel_rfl
theorem cellsRow2 : Try.prog.cellsOf 24 = 1 := by kernel_rfl
theorem cellsRow3 : Try.prog.cellsOf 25 = 1 := by kernel_rfl
theorem store_of_trod {H : Type} {enc : TypeId × Value -> H} {W : World} {fuel : Nat} {cs : List Value} {x : DataW H × List MemPlace} (h : DataW.trod enc Try.prog W 0 (fun _ => true) true fuel 27 cs = some x) :
  ∃ s : So, ArgO W.heap.size W (.agg cs.toArray) s /\ WdO s := by
 obtain ⟨xs, m, rfl, hx, hl, hxl, hall⟩ := DataW.trod_struct Try.underlying27 h
 rw [cellsStore] at hl
 obtain ⟨x0, x1, x2, rfl⟩ : ∃ x0 x1 x2, xs = [x0, x1, x2] := by
  match xs, hxl with
  | [x0, x1, x2], _ => exact ⟨x0, x1, x2, rfl⟩
 have f0 := hall 0 _ rfl
 change DataW.trod _ _ _ _ _ _ _ 23 ((cs.drop 0).take (Try.prog.cellsOf 23)) = some x0 at f0
 rw [cellsRow1] at f0
 obtain ⟨a0, c0, l0, h0, m0, w0, r0⟩ := certs_in f0
 have g0 := take_one h0
 have f1 := hall 1 _ rfl
 change DataW.trod _ _ _ _ _ _ _ 24 ((cs.drop 1).take (Try.prog.cellsOf 24)) = some x1 at f1
 rw [cellsRow2] at f1
 obtain ⟨a1, c1, l1, h1, m1, w1, r1⟩ := crls_in f1
 have g1 := take_one h1
 have f2 := hall 2 _ rfl
 change DataW.trod _ _ _ _ _ _ _ 25 ((cs.drop 2).take (Try.prog.cellsOf 25)) = some x2 at f2
 rw [cellsRow3] at f2
 obtain ⟨a2, c2, l2, h2, m2, w2, r2⟩ := anchors_in f2
 have g2 := take_one h2
 have hcs : cs = [.slice a0 l0.length c0, .slice a1 l1.length c1, .slice a2 l2.length c2] := by
  match cs, hl with
  | [y0, y1, y2], _ =>
   simp at g0 g1 g2
   rw [g0, g1, g2]
 unfold maxLen at m0 m1 m2
 exact ⟨⟨l0, l1, l2⟩, ⟨a0, c0, a1, c1, a2, c2, by rw [hcs], r0, r1, r2⟩, ⟨w0, m0⟩, ⟨w1, m1⟩, w2, m2⟩
end Go.Proofs.Ytllmgjfffkhocaa
