/-
  Texts of the proof.
-/
import Derived.Laws.OwnMore
import Derived.Deep.RegionHeld3
import Derived.WalkKit
import Derived.Laws.RangeString
import Derived.Laws.RangeAny
import Derived.ChangeArms
import Derived.ChangeSlices
import Derived.ChangeOld
import Derived.DataElems
import Derived.OpenShut
import Derived.Deep.MidRow
import Derived.Test.YtagmnlmfoanelaaNA5
namespace Go.Proofs.Ytagmnlmfoanelaa
open Go.RowKit
set_option linter.unusedVariables false
structure Kd (α : Type) where
 T : TypeId
 K : Nat
 Own : World -> Nat -> Value -> α -> Prop
 At : World -> Value -> α -> Prop
 fp : Value -> List Nat
 pos : 0 < K
 size : ∀ {w : World} {b : Nat} {v : Value} {c : α}, Own w b v c -> v.cells.size = K /\ ∀ x ∈ v.cells.toList, x.oneCell' = true
 same : ∀ {w w' : World} {b : Nat} {v : Value} {c : α}, Own w b v c -> (∀ g ∈ fp v, w'.heap[g]? = w.heap[g]?) -> Own w' b v c
 lt : ∀ {w : World} {b : Nat} {v : Value} {c : α}, Own w b v c -> ∀ g ∈ fp v, b <= g /\ g < w.heap.size
 base : ∀ {w : World} {b b' : Nat} {v : Value} {c : α}, Own w b v c -> b' <= b -> Own w b' v c
 nodup : ∀ {w : World} {b : Nat} {v : Value} {c : α}, Own w b v c -> (fp v).Nodup
 own_at : ∀ {w : World} {b : Nat} {v : Value} {c : α}, Own w b v c -> At w v c
 below : ∀ {w w' : World} {v : Value} {c : α}, At w v c -> Below w.heap.size w w' -> At w' v c
def cellsV (vs : List Value) : List Value := vs.flatMap fun v => v.cells.toList
theorem cellsV_cons (v : Value) (vs : List Value) : cellsV (v :: vs) = v.cells.toList ++ cellsV vs := rfl
theorem cellsV_at {K : Nat} : ∀ {vs : List Value}, (∀ v ∈ vs, v.cells.size = K) -> ∀ (j : Nat) (hj : j < vs.length) (i : Nat), i < K -> (cellsV vs)[j * K + i]? = vs[j].cells[i]?
 | [], _, j, hj, _, _ => absurd hj (Nat.not_lt_zero _)
 | v :: vs, h, 0, _, i, hi => by
  rw [cellsV_cons, Nat.zero_mul, Nat.zero_add, List.getElem?_append_left (by rw [Array.length_toList, h v (List.mem_cons_self ..)]; exact hi), Array.getElem?_toList]
  rfl
 | v :: vs, h, j + 1, hj, i, hi => by
  have hv : v.cells.toList.length = K := by rw [Array.length_toList]; exact h v (List.mem_cons_self ..)
  rw [cellsV_cons, List.getElem?_append_right (by rw [hv, Nat.succ_mul]; omega), hv, show (j + 1) * K + i - K = j * K + i by rw [Nat.succ_mul]; omega, cellsV_at (fun x hx => h x (List.mem_cons_of_mem _ hx)) j (by simpa using hj) i hi]
  rfl
def setMany : List Value -> Nat -> List Value -> List Value
 | xs, _, [] => xs
 | xs, i, u :: us => setMany (xs.set i u) (i + 1) us
theorem setMany_append (a : List Value) : ∀ (us b : List Value) (i : Nat), setMany (a ++ b) (a.length + i) us = a ++ setMany b i us
 | [], b, i => rfl
 | u :: us, b, i => by
  show setMany ((a ++ b).set (a.length + i) u) (a.length + i + 1) us = a ++ setMany (b.set i u) (i + 1) us
  rw [List.set_append_right (a.length + i) u (by omega), Nat.add_sub_cancel_left, Nat.add_assoc, setMany_append a us (b.set i u) (i + 1)]
theorem setMany_head : ∀ (us a b : List Value), us.length = a.length -> setMany (a ++ b) 0 us = us ++ b
 | [], [], b, _ => rfl
 | [], _ :: _, _, h => by simp at h
 | _ :: _, [], _, h => by simp at h
 | u :: us, x :: a, b, h => by
  show setMany (u :: (a ++ b)) 1 us = u :: (us ++ b)
  rw [<- setMany_head us a b (by simpa using h)]
  exact setMany_append [u] us (a ++ b) 0
theorem setMany_cells {K : Nat} : ∀ {vs : List Value}, (∀ v ∈ vs, v.cells.size = K) -> ∀ (j : Nat) (u : Value), j < vs.length -> u.cells.size = K -> setMany (cellsV vs) (j * K) u.cells.toList = cellsV (vs.set j u)
 | [], _, j, _, hj, _ => absurd hj (Nat.not_lt_zero _)
 | v :: vs, h, 0, u, _, hu => by
  rw [cellsV_cons, Nat.zero_mul, setMany_head _ _ _ (by rw [Array.length_toList, Array.length_toList, hu, h v (List.mem_cons_self ..)])]
  rfl
 | v :: vs, h, j + 1, u, hj, hu => by
  have hv : v.cells.toList.length = K := by rw [Array.length_toList]; exact h v (List.mem_cons_self ..)
  rw [cellsV_cons, show (j + 1) * K = v.cells.toList.length + j * K by rw [hv, Nat.succ_mul, Nat.add_comm], setMany_append, setMany_cells (fun x hx => h x (List.mem_cons_of_mem _ hx)) j u (by simpa using hj) hu]
  rfl
def OwnS {α : Type} (k : Kd α) (w : World) (base : Nat) (v : Value) (l : List α) (fp : List Nat) : Prop :=
 ∃ vs : List Value, vs.length = l.length /\ w.ownsRow base k.T k.K v l.length (cellsV vs) /\ (∀ j (h1 : j < vs.length) (h2 : j < l.length), k.Own w base vs[j] l[j]) /\ fp = v.ownBlock.toList ++ vs.flatMap k.fp /\ fp.Nodup
def RowS {α : Type} (K B : Nat) (P : Value -> α -> Prop) (w : World) (v : Value) (l : List α) : Prop :=
 ∃ ao cap, v = .slice ao l.length cap /\ ∀ j (h : j < l.length), ∃ g o u, ao = some ⟨g, o, none⟩ /\ g < B /\ P u l[j] /\ u.cells.size = K /\ ∀ i x, u.cells[i]? = some x -> w.cell? ⟨g, o + j * K + i, none⟩ = some x
def AtS {α : Type} (k : Kd α) (w : World) (v : Value) (l : List α) : Prop := RowS k.K w.heap.size (k.At w) w v l
theorem RowS.shape {α : Type} {K B : Nat} {P : Value -> α -> Prop} {w : World} {v : Value} {l : List α} (h : RowS K B P w v l) : ∃ ao cap, v = .slice ao l.length cap := by
 obtain ⟨ao, cap, hv, _⟩ := h
 exact ⟨ao, cap, hv⟩
theorem RowS.get {α : Type} {K B : Nat} {P : Value -> α -> Prop} {w : World} {ao : Option Addr} {n cap : Nat} {l : List α} (h : RowS K B P w (.slice ao n cap) l) {j : Nat} (hj : j < l.length) : ∃ g o u, ao = some ⟨g, o, none⟩ /\ g < B /\ P u l[j] /\ u.cells.size = K /\ ∀ i x, u.cells[i]? = some x -> w.cell? ⟨g, o + j * K + i, none⟩ = some x := by
 obtain ⟨ao', cap', hv, hc⟩ := h
 injection hv with h1 h2 h3
 subst h1
 exact hc j hj
theorem RowS.below {α : Type} {K B : Nat} {P Q : Value -> α -> Prop} {w w' : World} {v : Value} {l : List α} (h : RowS K B P w v l) (hb : Below B w w') (hP : ∀ u c, P u c -> Q u c) {B' : Nat} (hB : B <= B') : RowS K B' Q w' v l := by
 obtain ⟨ao, cap, hv, hc⟩ := h
 refine ⟨ao, cap, hv, fun j hj => ?_⟩
 obtain ⟨g, o, u, h1, h2, h3, h4, h5⟩ := hc j hj
 exact ⟨g, o, u, h1, by omega, hP _ _ h3, h4, fun i x hx => (hb.cell (p := ⟨g, o + j * K + i, none⟩) h2).trans (h5 i x hx)⟩
theorem AtS.below {α : Type} {k : Kd α} {w w' : World} {v : Value} {l : List α} (h : AtS k w v l) (hb : Below w.heap.size w w') : AtS k w' v l := RowS.below h hb (fun _ _ hP => k.below hP hb) hb.size
theorem flat_mem {k : Value -> List Nat} {vs : List Value} {b : Nat} (h : b ∈ vs.flatMap k) : ∃ j, ∃ hj : j < vs.length, b ∈ k vs[j] := by
 obtain ⟨v, hv, hb⟩ := List.mem_flatMap.1 h
 obtain ⟨j, hj, rfl⟩ := List.getElem_of_mem hv
 exact ⟨j, hj, hb⟩
theorem mem_flat {k : Value -> List Nat} {vs : List Value} {j b : Nat} (hj : j < vs.length) (hb : b ∈ k vs[j]) : b ∈ vs.flatMap k := List.mem_flatMap.2 ⟨_, List.getElem_mem hj, hb⟩
theorem OwnS.lt {α : Type} {k : Kd α} {w : World} {base : Nat} {v : Value} {l : List α} {fp : List Nat} (h : OwnS k w base v l fp) : ∀ b ∈ fp, base <= b /\ b < w.heap.size := by
 obtain ⟨vs, hl, hr, he, rfl, hn⟩ := h
 intro b hb
 rcases List.mem_append.1 hb with hb | hb
 ·exact hr.lt b (Option.mem_toList.1 hb)
 ·obtain ⟨j, hj, hbj⟩ := flat_mem hb
  exact k.lt (he j hj (by omega)) b hbj
theorem OwnS.nodup {α : Type} {k : Kd α} {w : World} {base : Nat} {v : Value} {l : List α} {fp : List Nat} (h : OwnS k w base v l fp) : fp.Nodup := by
 obtain ⟨vs, hl, hr, he, hf, hn⟩ := h
 exact hn
theorem row_same {w w' : World} {base : Nat} {e : TypeId} {size : Nat} {v : Value} {n : Nat} {xs : List Value} (h : w.ownsRow base e size v n xs) (hs : ∀ g, v.ownBlock = some g -> w'.heap[g]? = w.heap[g]?) : w'.ownsRow base e size v n xs := by
 obtain ⟨h1, h2⟩ := h
 refine ⟨h1, ?_⟩
 rcases h2 with h2 | ⟨g, cap, cur, hv, hbg, hg, r⟩
 ·exact .inl h2
 ·exact .inr ⟨g, cap, cur, hv, hbg, (hs g (by rw [hv]; rfl)).trans hg, r⟩
theorem OwnS.same {α : Type} {k : Kd α} {w w' : World} {base : Nat} {v : Value} {l : List α} {fp : List Nat} (h : OwnS k w base v l fp) (hs : ∀ b ∈ fp, w'.heap[b]? = w.heap[b]?) : OwnS k w' base v l fp := by
 obtain ⟨vs, hl, hr, he, rfl, hn⟩ := h
 refine ⟨vs, hl, row_same hr (fun g hg => hs g (List.mem_append_left _ (Option.mem_toList.2 hg))), fun j h1 h2 => k.same (he j h1 h2) fun g hg => hs g (List.mem_append_right _ (mem_flat h1 hg)), rfl, hn⟩
theorem OwnS.stays {α : Type} {k : Kd α} {w w' : World} {base : Nat} {v : Value} {l : List α} {fp : List Nat} (h : OwnS k w base v l fp) (hb : Below w.heap.size w w') : OwnS k w' base v l fp := h.same fun b hm => hb.block b (h.lt b hm).2
theorem OwnS.out {α : Type} {k : Kd α} {w w' : World} {base : Nat} {v : Value} {l : List α} {fp fq : List Nat} (h : OwnS k w base v l fp) (ho : Out fq w w') (hn : ∀ b ∈ fp, b ∉ fq) : OwnS k w' base v l fp := h.same fun b hm => ho.2.2.2.2 b (h.lt b hm).2 (hn b hm)
theorem OwnS.base {α : Type} {k : Kd α} {w : World} {b b' : Nat} {v : Value} {l : List α} {fp : List Nat} (h : OwnS k w b v l fp) (hb : b' <= b) : OwnS k w b' v l fp := by
 obtain ⟨vs, hl, hr, he, hf, hn⟩ := h
 refine ⟨vs, hl, ⟨hr.1, ?_⟩, fun j h1 h2 => k.base (he j h1 h2) hb, hf, hn⟩
 rcases hr.2 with h2 | ⟨g, cap, cur, hv, hbg, r⟩
 ·exact .inl h2
 ·exact .inr ⟨g, cap, cur, hv, Nat.le_trans hb hbg, r⟩
theorem OwnS.sizes {α : Type} {k : Kd α} {w : World} {base : Nat} {l : List α} {vs : List Value} (hl : vs.length = l.length) (he : ∀ j (h1 : j < vs.length) (h2 : j < l.length), k.Own w base vs[j] l[j]) : ∀ v ∈ vs, v.cells.size = k.K := fun v hv => by
 obtain ⟨j, hj, rfl⟩ := List.getElem_of_mem hv
 exact (k.size (he j hj (by omega))).1
theorem OwnS.at {α : Type} {k : Kd α} {w : World} {base : Nat} {v : Value} {l : List α} {fp : List Nat} (h : OwnS k w base v l fp) : AtS k w v l := by
 obtain ⟨vs, hl, hr, he, hf, hn⟩ := h
 have hlt := hr.lt
 have hsz := OwnS.sizes hl he
 have hr' := hr
 rcases hr.2 with ⟨hv, h0⟩ | ⟨g, cap, cur, hv, hbg, hg, hnc, hcm, hcs, htk⟩
 ·exact ⟨none, 0, by rw [hv, h0], fun j hj => by omega⟩
 ·refine ⟨some ⟨g, 0, none⟩, cap, hv, fun j hj => ⟨g, 0, vs[j]'(by omega), rfl, (hlt g (by rw [hv]; rfl)).2, k.own_at (he j (by omega) hj), hsz _ (List.getElem_mem _), fun i x hx => ?_⟩⟩
  have hi : i < k.K := by
   have := (Array.getElem?_eq_some_iff.1 hx).1
   rw [hsz _ (List.getElem_mem _)] at this
   exact this
  rw [hv] at hr'
  have hjK : j * k.K + i < l.length * k.K := by
   have := Nat.mul_le_mul_right k.K (show j + 1 <= l.length by omega)
   rw [Nat.succ_mul] at this
   omega
  rw [Nat.zero_add, World.ownsRow.cellAt hr' _ hjK, cellsV_at hsz j (by omega) i hi]
  exact hx
theorem OwnS.shape {α : Type} {k : Kd α} {w : World} {base : Nat} {v : Value} {l : List α} {fp : List Nat} (h : OwnS k w base v l fp) : ∃ ao cap, v = .slice ao l.length cap /\ (0 < l.length -> ∃ g, ao = some ⟨g, 0, none⟩) /\ l.length <= cap /\ cap <= maxLen := by
 obtain ⟨vs, hl, hr, he, hf, hn⟩ := h
 rcases hr.2 with ⟨h1, h0⟩ | ⟨g, cap, cur, hv, _, _, hn, hm, _⟩
 ·exact ⟨none, 0, by rw [h1, h0], fun h => by omega, by omega, Nat.zero_le _⟩
 ·exact ⟨some ⟨g, 0, none⟩, cap, hv, fun _ => ⟨g, rfl⟩, hn, hm⟩
end Go.Proofs.Ytagmnlmfoanelaa
namespace Go.Proofs.Ytagmnlmfoanelaa
open Go.RowKit
set_option linter.unusedVariables false
set_option linter.unusedSimpArgs false
theorem sum_take {l : List Nat} {k : Nat} (h : k < l.length) : (l.take (k + 1)).sum = (l.take k).sum + l[k] := by
 rw [List.take_add_one, List.sum_append, List.getElem?_eq_getElem h]
 simp
theorem sum_take_le (l : List Nat) (k : Nat) : (l.take k).sum <= l.sum := by
 have h : (l.take k ++ l.drop k).sum = (l.take k).sum + (l.drop k).sum := List.sum_append
 rw [List.take_append_drop] at h
 omega
theorem rowOne {w : World} {base t n : Nat} {s : Nat} {p : Value} {l : List Value} (h : w.ownsRow base t s p n l) : p.oneCell' = true := by
 rcases h.2 with ⟨rfl, _⟩ | ⟨g, cap, cur, rfl, _⟩ <;> rfl
theorem ap_ne {p e : Value} (h : Ap p e) {g : Nat} (h1 : p.ownBlock = some g) (h2 : e.ownBlock = some g) : False := by
 rcases h with h | h
 ·rw [h] at h1; cases h1
 ·exact h (h1.trans h2.symm)
theorem optNodup (o : Option Nat) : o.toList.Nodup := by cases o <;> simp
end Go.Proofs.Ytagmnlmfoanelaa
