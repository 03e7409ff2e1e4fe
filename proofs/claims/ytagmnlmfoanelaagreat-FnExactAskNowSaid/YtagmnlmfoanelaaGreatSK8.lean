/-
  Texts of the proof.
-/
import Derived.Laws.OwnMore
import Derived.Deep.RegionHeld3
import Derived.Test.YtagmnlmfoanelaaGreatSK7
namespace Go.Proofs.YtagmnlmfoanelaaGreat
open Go.RowKit
set_option linter.unusedVariables false
theorem Out.grown {fp : List Nat} {a b c : World} {row : Option Nat} (h : Out fp a b) (hg : b.grownBy c row) (hr : ∀ q, row = some q -> q ∈ fp) : Out fp a c :=
 h.trans ⟨hg.os, hg.tape, hg.output, hg.size, fun k hk hn => hg.block k hk fun e => hn (hr k e.symm)⟩
theorem Out.row {fp : List Nat} {a b : World} {v : Value} (h : Out fp a b) (hv : ∀ g, v.ownBlock = some g -> g ∉ fp) : ∀ {base : Nat} {e : TypeId} {size n : Nat} {xs : List Value}, a.ownsRow base e size v n xs -> b.ownsRow base e size v n xs := by
 intro base e size n xs ho
 refine ⟨ho.1, ?_⟩
 rcases ho.2 with hn | ⟨g, cap, cur, rfl, hb, hgg, rest⟩
 ·exact .inl hn
 ·refine .inr ⟨g, cap, cur, rfl, hb, ?_, rest⟩
  rw [h.2.2.2.2 g (Array.getElem?_eq_some_iff.1 hgg).1 (hv g rfl)]
  exact hgg
structure Kd (α : Type) where
 T : TypeId
 K : Nat
 Own : World -> Nat -> Value -> α -> Prop
 At : World -> Value -> α -> Prop
 fp : Value -> List Nat
 pos : 0 < K
 size : ∀ {w : World} {b : Nat} {v : Value} {c : α}, Own w b v c -> v.cells.size = K /\ ∀ x ∈ v.cells.toList, x.oneCell' = true
 same : ∀ {w w' : World} {b : Nat} {v : Value} {c : α}, Own w b v c -> (∀ g ∈ fp v, w'.heap[g]? = w.heap[g]?) -> Own w' b v c
 lt : ∀ {w : World} {b : Nat} {v : Value} {c : α}, Own w b v c -> ∀ g ∈ fp v, b <= g /\ g < w.heap.size
 base : ∀ {w : World} {b b' : Nat} {v : Value} {c : α}, Own w b v c -> b' <= b -> Own w b' v c
 nodup : ∀ {w : World} {b : Nat} {v : Value} {c : α}, Own w b v c -> (fp v).Nodup
 own_at : ∀ {w : World} {b : Nat} {v : Value} {c : α}, Own w b v c -> At w v c
 below : ∀ {w w' : World} {v : Value} {c : α}, At w v c -> Below w.heap.size w w' -> At w' v c
def cellsV (vs : List Value) : List Value := vs.flatMap fun v => v.cells.toList
theorem cellsV_cons (v : Value) (vs : List Value) : cellsV (v :: vs) = v.cells.toList ++ cellsV vs := rfl
theorem cellsV_append (a b : List Value) : cellsV (a ++ b) = cellsV a ++ cellsV b := by simp [cellsV, List.flatMap_append]
theorem cellsV_len {K : Nat} : ∀ {vs : List Value}, (∀ v ∈ vs, v.cells.size = K) -> (cellsV vs).length = vs.length * K
 | [], _ => by simp [cellsV]
 | v :: vs, h => by
  rw [cellsV_cons, List.length_append, cellsV_len (fun x hx => h x (List.mem_cons_of_mem _ hx)), Array.length_toList, h v (List.mem_cons_self ..), List.length_cons, Nat.succ_mul, Nat.add_comm]
theorem cellsV_at {K : Nat} : ∀ {vs : List Value}, (∀ v ∈ vs, v.cells.size = K) -> ∀ (j : Nat) (hj : j < vs.length) (i : Nat), i < K -> (cellsV vs)[j * K + i]? = vs[j].cells[i]?
 | [], _, j, hj, _, _ => absurd hj (Nat.not_lt_zero _)
 | v :: vs, h, 0, _, i, hi => by
  rw [cellsV_cons, Nat.zero_mul, Nat.zero_add, List.getElem?_append_left (by rw [Array.length_toList, h v (List.mem_cons_self ..)]; exact hi), Array.getElem?_toList]
  rfl
 | v :: vs, h, j + 1, hj, i, hi => by
  have hv : v.cells.toList.length = K := by rw [Array.length_toList]; exact h v (List.mem_cons_self ..)
  rw [cellsV_cons, List.getElem?_append_right (by rw [hv, Nat.succ_mul]; omega), hv, show (j + 1) * K + i - K = j * K + i by rw [Nat.succ_mul]; omega, cellsV_at (fun x hx => h x (List.mem_cons_of_mem _ hx)) j (by simpa using hj) i hi]
  rfl
def setMany : List Value -> Nat -> List Value -> List Value
 | xs, _, [] => xs
 | xs, i, u :: us => setMany (xs.set i u) (i + 1) us
def putCells : World -> Nat -> Nat -> List Value -> World
 | w, _, _, [] => w
 | w, g, i, u :: us => putCells (w.setCell ⟨g, i, none⟩ u) g (i + 1) us
theorem setMany_append (a : List Value) : ∀ (us b : List Value) (i : Nat), setMany (a ++ b) (a.length + i) us = a ++ setMany b i us
 | [], b, i => rfl
 | u :: us, b, i => by
  show setMany ((a ++ b).set (a.length + i) u) (a.length + i + 1) us = a ++ setMany (b.set i u) (i + 1) us
  rw [List.set_append_right (a.length + i) u (by omega), Nat.add_sub_cancel_left, Nat.add_assoc, setMany_append a us (b.set i u) (i + 1)]
theorem setMany_head : ∀ (us a b : List Value), us.length = a.length -> setMany (a ++ b) 0 us = us ++ b
 | [], [], b, _ => rfl
 | [], _ :: _, _, h => by simp at h
 | _ :: _, [], _, h => by simp at h
 | u :: us, x :: a, b, h => by
  show setMany (u :: (a ++ b)) 1 us = u :: (us ++ b)
  rw [<- setMany_head us a b (by simpa using h)]
  exact setMany_append [u] us (a ++ b) 0
theorem setMany_cells {K : Nat} : ∀ {vs : List Value}, (∀ v ∈ vs, v.cells.size = K) -> ∀ (j : Nat) (u : Value), j < vs.length -> u.cells.size = K -> setMany (cellsV vs) (j * K) u.cells.toList = cellsV (vs.set j u)
 | [], _, j, _, hj, _ => absurd hj (Nat.not_lt_zero _)
 | v :: vs, h, 0, u, _, hu => by
  rw [cellsV_cons, Nat.zero_mul, setMany_head _ _ _ (by rw [Array.length_toList, Array.length_toList, hu, h v (List.mem_cons_self ..)])]
  rfl
 | v :: vs, h, j + 1, u, hj, hu => by
  have hv : v.cells.toList.length = K := by rw [Array.length_toList]; exact h v (List.mem_cons_self ..)
  rw [cellsV_cons, show (j + 1) * K = v.cells.toList.length + j * K by rw [hv, Nat.succ_mul, Nat.add_comm], setMany_append, setMany_cells (fun x hx => h x (List.mem_cons_of_mem _ hx)) j u (by simpa using hj) hu]
  rfl
theorem putCells_row : ∀ {us : List Value} {w : World} {base g cap n i : Nat} {e : TypeId} {size : Nat} {xs : List Value}, w.ownsRow base e size (.slice (some ⟨g, 0, none⟩) n cap) n xs -> (putCells w g i us).ownsRow base e size (.slice (some ⟨g, 0, none⟩) n cap) n (setMany xs i us)
 | [], _, _, _, _, _, _, _, _, _, h => h
 | u :: us, w, base, g, cap, n, i, e, size, xs, h => putCells_row (us := us) (h.stored i u).1
theorem putCells_out : ∀ (us : List Value) (w : World) (g i : Nat), Out [g] w (putCells w g i us)
 | [], w, g, i => Out.refl _ _
 | u :: us, w, g, i => ((Out.refl [g] w).setCell ⟨g, i, none⟩ u (by simp)).trans (putCells_out us _ g (i + 1))
def OwnS {α : Type} (k : Kd α) (w : World) (base : Nat) (v : Value) (l : List α) (fp : List Nat) : Prop :=
 ∃ vs : List Value, vs.length = l.length /\ w.ownsRow base k.T k.K v l.length (cellsV vs) /\ (∀ j (h1 : j < vs.length) (h2 : j < l.length), k.Own w base vs[j] l[j]) /\ fp = v.ownBlock.toList ++ vs.flatMap k.fp /\ fp.Nodup
def RowS {α : Type} (K B : Nat) (P : Value -> α -> Prop) (w : World) (v : Value) (l : List α) : Prop :=
 ∃ ao cap, v = .slice ao l.length cap /\ ∀ j (h : j < l.length), ∃ g o u, ao = some ⟨g, o, none⟩ /\ g < B /\ P u l[j] /\ u.cells.size = K /\ ∀ i x, u.cells[i]? = some x -> w.cell? ⟨g, o + j * K + i, none⟩ = some x
def AtS {α : Type} (k : Kd α) (w : World) (v : Value) (l : List α) : Prop := RowS k.K w.heap.size (k.At w) w v l
theorem RowS.shape {α : Type} {K B : Nat} {P : Value -> α -> Prop} {w : World} {v : Value} {l : List α} (h : RowS K B P w v l) : ∃ ao cap, v = .slice ao l.length cap := by
 obtain ⟨ao, cap, hv, _⟩ := h
 exact ⟨ao, cap, hv⟩
theorem RowS.get {α : Type} {K B : Nat} {P : Value -> α -> Prop} {w : World} {ao : Option Addr} {n cap : Nat} {l : List α} (h : RowS K B P w (.slice ao n cap) l) {j : Nat} (hj : j < l.length) : ∃ g o u, ao = some ⟨g, o, none⟩ /\ g < B /\ P u l[j] /\ u.cells.size = K /\ ∀ i x, u.cells[i]? = some x -> w.cell? ⟨g, o + j * K + i, none⟩ = some x := by
 obtain ⟨ao', cap', hv, hc⟩ := h
 injection hv with h1 h2 h3
 subst h1
 exact hc j hj
theorem RowS.below {α : Type} {K B : Nat} {P Q : Value -> α -> Prop} {w w' : World} {v : Value} {l : List α} (h : RowS K B P w v l) (hb : Below B w w') (hP : ∀ u c, P u c -> Q u c) {B' : Nat} (hB : B <= B') : RowS K B' Q w' v l := by
 obtain ⟨ao, cap, hv, hc⟩ := h
 refine ⟨ao, cap, hv, fun j hj => ?_⟩
 obtain ⟨g, o, u, h1, h2, h3, h4, h5⟩ := hc j hj
 exact ⟨g, o, u, h1, by omega, hP _ _ h3, h4, fun i x hx => (hb.cell (p := ⟨g, o + j * K + i, none⟩) h2).trans (h5 i x hx)⟩
theorem AtS.below {α : Type} {k : Kd α} {w w' : World} {v : Value} {l : List α} (h : AtS k w v l) (hb : Below w.heap.size w w') : AtS k w' v l := RowS.below h hb (fun _ _ hP => k.below hP hb) hb.size
theorem flat_mem {k : Value -> List Nat} {vs : List Value} {b : Nat} (h : b ∈ vs.flatMap k) : ∃ j, ∃ hj : j < vs.length, b ∈ k vs[j] := by
 obtain ⟨v, hv, hb⟩ := List.mem_flatMap.1 h
 obtain ⟨j, hj, rfl⟩ := List.getElem_of_mem hv
 exact ⟨j, hj, hb⟩
theorem mem_flat {k : Value -> List Nat} {vs : List Value} {j b : Nat} (hj : j < vs.length) (hb : b ∈ k vs[j]) : b ∈ vs.flatMap k := List.mem_flatMap.2 ⟨_, List.getElem_mem hj, hb⟩
theorem OwnS.lt {α : Type} {k : Kd α} {w : World} {base : Nat} {v : Value} {l : List α} {fp : List Nat} (h : OwnS k w base v l fp) : ∀ b ∈ fp, base <= b /\ b < w.heap.size := by
 obtain ⟨vs, hl, hr, he, rfl, hn⟩ := h
 intro b hb
 rcases List.mem_append.1 hb with hb | hb
 ·exact hr.lt b (Option.mem_toList.1 hb)
 ·obtain ⟨j, hj, hbj⟩ := flat_mem hb
  exact k.lt (he j hj (by omega)) b hbj
theorem OwnS.nodup {α : Type} {k : Kd α} {w : World} {base : Nat} {v : Value} {l : List α} {fp : List Nat} (h : OwnS k w base v l fp) : fp.Nodup := by
 obtain ⟨vs, hl, hr, he, hf, hn⟩ := h
 exact hn
theorem row_same {w w' : World} {base : Nat} {e : TypeId} {size : Nat} {v : Value} {n : Nat} {xs : List Value} (h : w.ownsRow base e size v n xs) (hs : ∀ g, v.ownBlock = some g -> w'.heap[g]? = w.heap[g]?) : w'.ownsRow base e size v n xs := by
 obtain ⟨h1, h2⟩ := h
 refine ⟨h1, ?_⟩
 rcases h2 with h2 | ⟨g, cap, cur, hv, hbg, hg, r⟩
 ·exact .inl h2
 ·exact .inr ⟨g, cap, cur, hv, hbg, (hs g (by rw [hv]; rfl)).trans hg, r⟩
theorem OwnS.same {α : Type} {k : Kd α} {w w' : World} {base : Nat} {v : Value} {l : List α} {fp : List Nat} (h : OwnS k w base v l fp) (hs : ∀ b ∈ fp, w'.heap[b]? = w.heap[b]?) : OwnS k w' base v l fp := by
 obtain ⟨vs, hl, hr, he, rfl, hn⟩ := h
 refine ⟨vs, hl, row_same hr (fun g hg => hs g (List.mem_append_left _ (Option.mem_toList.2 hg))), fun j h1 h2 => k.same (he j h1 h2) fun g hg => hs g (List.mem_append_right _ (mem_flat h1 hg)), rfl, hn⟩
theorem OwnS.stays {α : Type} {k : Kd α} {w w' : World} {base : Nat} {v : Value} {l : List α} {fp : List Nat} (h : OwnS k w base v l fp) (hb : Below w.heap.size w w') : OwnS k w' base v l fp := h.same fun b hm => hb.block b (h.lt b hm).2
theorem OwnS.out {α : Type} {k : Kd α} {w w' : World} {base : Nat} {v : Value} {l : List α} {fp fq : List Nat} (h : OwnS k w base v l fp) (ho : Out fq w w') (hn : ∀ b ∈ fp, b ∉ fq) : OwnS k w' base v l fp := h.same fun b hm => ho.2.2.2.2 b (h.lt b hm).2 (hn b hm)
theorem OwnS.base {α : Type} {k : Kd α} {w : World} {b b' : Nat} {v : Value} {l : List α} {fp : List Nat} (h : OwnS k w b v l fp) (hb : b' <= b) : OwnS k w b' v l fp := by
 obtain ⟨vs, hl, hr, he, hf, hn⟩ := h
 refine ⟨vs, hl, ⟨hr.1, ?_⟩, fun j h1 h2 => k.base (he j h1 h2) hb, hf, hn⟩
 rcases hr.2 with h2 | ⟨g, cap, cur, hv, hbg, r⟩
 ·exact .inl h2
 ·exact .inr ⟨g, cap, cur, hv, Nat.le_trans hb hbg, r⟩
theorem OwnS.sizes {α : Type} {k : Kd α} {w : World} {base : Nat} {l : List α} {vs : List Value} (hl : vs.length = l.length) (he : ∀ j (h1 : j < vs.length) (h2 : j < l.length), k.Own w base vs[j] l[j]) : ∀ v ∈ vs, v.cells.size = k.K := fun v hv => by
 obtain ⟨j, hj, rfl⟩ := List.getElem_of_mem hv
 exact (k.size (he j hj (by omega))).1
theorem OwnS.at {α : Type} {k : Kd α} {w : World} {base : Nat} {v : Value} {l : List α} {fp : List Nat} (h : OwnS k w base v l fp) : AtS k w v l := by
 obtain ⟨vs, hl, hr, he, hf, hn⟩ := h
 have hlt := hr.lt
 have hsz := OwnS.sizes hl he
 have hr' := hr
 rcases hr.2 with ⟨hv, h0⟩ | ⟨g, cap, cur, hv, hbg, hg, hnc, hcm, hcs, htk⟩
 ·exact ⟨none, 0, by rw [hv, h0], fun j hj => by omega⟩
 ·refine ⟨some ⟨g, 0, none⟩, cap, hv, fun j hj => ⟨g, 0, vs[j]'(by omega), rfl, (hlt g (by rw [hv]; rfl)).2, k.own_at (he j (by omega) hj), hsz _ (List.getElem_mem _), fun i x hx => ?_⟩⟩
  have hi : i < k.K := by
   have := (Array.getElem?_eq_some_iff.1 hx).1
   rw [hsz _ (List.getElem_mem _)] at this
   exact this
  rw [hv] at hr'
  have hjK : j * k.K + i < l.length * k.K := by
   have := Nat.mul_le_mul_right k.K (show j + 1 <= l.length by omega)
   rw [Nat.succ_mul] at this
   omega
  rw [Nat.zero_add, World.ownsRow.cellAt hr' _ hjK, cellsV_at hsz j (by omega) i hi]
  exact hx
theorem OwnS.nil {α : Type} (k : Kd α) (w : World) (base : Nat) : OwnS k w base (.slice none 0 0) [] [] := ⟨[], rfl, World.ownsRow_nil _ _ _ _, fun j h => absurd h (Nat.not_lt_zero _), rfl, List.nodup_nil⟩
theorem OwnS.made {α : Type} (k : Kd α) (w : World) (base : Nat) (hb : base <= w.heap.size) : OwnS k (w.alloc (.cells #[] k.T)) base (.slice (some ⟨w.heap.size, 0, none⟩) 0 0) [] [w.heap.size] :=
 ⟨[], rfl, World.ownsRow_made w #[] 0 hb (Nat.zero_le _) (by simp), fun j h => absurd h (Nat.not_lt_zero _), rfl, by simp⟩
theorem OwnS.shape {α : Type} {k : Kd α} {w : World} {base : Nat} {v : Value} {l : List α} {fp : List Nat} (h : OwnS k w base v l fp) : ∃ ao cap, v = .slice ao l.length cap /\ (0 < l.length -> ∃ g, ao = some ⟨g, 0, none⟩) /\ l.length <= cap /\ cap <= maxLen := by
 obtain ⟨vs, hl, hr, he, hf, hn⟩ := h
 rcases hr.2 with ⟨h1, h0⟩ | ⟨g, cap, cur, hv, _, _, hn, hm, _⟩
 ·exact ⟨none, 0, by rw [h1, h0], fun h => by omega, by omega, Nat.zero_le _⟩
 ·exact ⟨some ⟨g, 0, none⟩, cap, hv, fun _ => ⟨g, rfl⟩, hn, hm⟩
theorem OwnS.snoc {α : Type} {k : Kd α} {w w' : World} {base g cap : Nat} {v : Value} {l : List α} {fp : List Nat} {vs : List Value} {u : Value} {c : α} (hl : vs.length = l.length) (hr : w.ownsRow base k.T k.K v l.length (cellsV vs)) (he : ∀ j (h1 : j < vs.length) (h2 : j < l.length), k.Own w base vs[j] l[j]) (hn : (v.ownBlock.toList ++ vs.flatMap k.fp).Nodup)
  (hu : k.Own w base u c) (hd : ∀ b ∈ k.fp u, b ∉ v.ownBlock.toList ++ vs.flatMap k.fp) (hown : w'.ownsRow base k.T k.K (.slice (some ⟨g, 0, none⟩) (l.length + 1) cap) (l.length + 1) (cellsV vs ++ u.cells.toList)) (hgrow : w.grownBy w' v.ownBlock) (hg : v.ownBlock = some g ∨ g = w.heap.size) :
  ∃ fp', OwnS k w' base (.slice (some ⟨g, 0, none⟩) (l ++ [c]).length cap) (l ++ [c]) fp' /\ ∀ b ∈ fp', b ∈ v.ownBlock.toList ++ vs.flatMap k.fp ∨ b ∈ k.fp u ∨ b = w.heap.size := by
 have old : ∀ y ∈ vs.flatMap k.fp, y < w.heap.size := fun y hy => by
  obtain ⟨j, hj, hyj⟩ := flat_mem hy
  exact (k.lt (he j hj (by omega)) y hyj).2
 have new : ∀ y ∈ k.fp u, y < w.heap.size := fun y hy => (k.lt hu y hy).2
 have hn2 := (List.nodup_append.1 hn)
 have apart : ∀ y ∈ vs.flatMap k.fp, v.ownBlock ≠ some y := fun y hy e => hn2.2.2 y (Option.mem_toList.2 e) y hy rfl
 have apart2 : ∀ y ∈ k.fp u, v.ownBlock ≠ some y := fun y hy e => hd y hy (List.mem_append_left _ (Option.mem_toList.2 e))
 refine ⟨g :: (vs ++ [u]).flatMap k.fp, ⟨vs ++ [u], by simp [hl], ?_, ?_, rfl, ?_⟩, ?_⟩
 ·rw [cellsV_append, List.length_append, List.length_singleton]
  show w'.ownsRow base k.T k.K _ _ (cellsV vs ++ (u.cells.toList ++ []))
  rw [List.append_nil]
  exact hown
 ·intro j h1 h2
  by_cases hj : j < vs.length
  ·have e1 : (vs ++ [u])[j] = vs[j] := List.getElem_append_left hj
   have e2 : (l ++ [c])[j] = l[j]'(by omega) := List.getElem_append_left (by omega)
   rw [e1, e2]
   refine k.same (he j hj (by omega)) fun y hy => ?_
   have hy2 := mem_flat (k := k.fp) hj hy
   exact hgrow.block y (old y hy2) (fun e => apart y hy2 e.symm)
  ·have hj2 : j = vs.length := by simp at h1; omega
   subst hj2
   have e1 : (vs ++ [u])[vs.length] = u := by simp
   have e2 : (l ++ [c])[vs.length]'h2 = c := by simp [hl]
   rw [e1, e2]
   exact k.same hu fun y hy => hgrow.block y (new y hy) (fun e => apart2 y hy e.symm)
 ·rw [List.nodup_cons, List.flatMap_append]
  refine ⟨fun hm => ?_, nodup_app hn2.2.1 ?_ fun y hy hy2 => ?_⟩
  ·rcases List.mem_append.1 hm with hm | hm
   ·rcases hg with hg | hg
    ·exact apart g hm hg
    ·have := old g hm; omega
   ·have hm' : g ∈ k.fp u := by simpa using hm
    rcases hg with hg | hg
    ·exact apart2 g hm' hg
    ·have := new g hm'; omega
  ·simpa using k.nodup hu
  ·have hy' : y ∈ k.fp u := by simpa using hy2
   exact hd y hy' (List.mem_append_right _ hy)
 ·intro b hb
  rcases List.mem_cons.1 hb with rfl | hb
  ·rcases hg with hg | hg
   ·exact .inl (List.mem_append_left _ (Option.mem_toList.2 hg))
   ·exact .inr (.inr hg)
  ·rw [List.flatMap_append] at hb
   rcases List.mem_append.1 hb with hb | hb
   ·exact .inl (List.mem_append_right _ hb)
   ·exact .inr (.inl (by simpa using hb))
theorem OwnS.put {α : Type} {k : Kd α} {w : World} {base g n cap : Nat} {l : List α} {fp : List Nat} (h : OwnS k w base (.slice (some ⟨g, 0, none⟩) n cap) l fp) (hn : n = l.length) {j : Nat} (hj : j < l.length) {u : Value} {c : α} (hu : k.Own w base u c) (hd : ∀ b ∈ k.fp u, b ∉ fp) :
  ∃ fp', OwnS k (putCells w g (j * k.K) u.cells.toList) base (.slice (some ⟨g, 0, none⟩) n cap) (l.set j c) fp' /\ ∀ b ∈ fp', b ∈ fp ∨ b ∈ k.fp u := by
 subst hn
 obtain ⟨vs, hl, hr, he, rfl, hnd⟩ := h
 have hsz := OwnS.sizes hl he
 have ho := putCells_out u.cells.toList w g (j * k.K)
 have hg1 : ∀ y, y ∈ vs.flatMap k.fp -> y ≠ g := fun y hy e => (List.nodup_append.1 hnd).2.2 g (by simp [Value.ownBlock]) y hy e.symm
 have hg2 : ∀ y, y ∈ k.fp u -> y ≠ g := fun y hy e => hd y hy (by rw [e]; simp [Value.ownBlock])
 have hset : ∀ y, y ∈ (vs.set j u).flatMap k.fp -> y ∈ vs.flatMap k.fp ∨ y ∈ k.fp u := fun y hy => by
  obtain ⟨x, hx, hyx⟩ := List.mem_flatMap.1 hy
  rcases List.mem_or_eq_of_mem_set hx with hx | rfl
  ·exact .inl (List.mem_flatMap.2 ⟨x, hx, hyx⟩)
  ·exact .inr hyx
 refine ⟨g :: (vs.set j u).flatMap k.fp, ⟨vs.set j u, by simp [hl], ?_, fun i h1 h2 => ?_, rfl, ?_⟩, fun b hb => ?_⟩
 ·rw [List.length_set, <- setMany_cells hsz j u (by omega) (k.size hu).1]
  exact putCells_row hr
 ·rw [List.getElem_set, List.getElem_set]
  by_cases e : j = i
  ·rw [if_pos e, if_pos e]
   exact k.same hu fun y hy => ho.2.2.2.2 y (k.lt hu y hy).2 (by simp [hg2 y hy])
  ·rw [if_neg e, if_neg e]
   have h3 : i < vs.length := by simpa using h1
   exact k.same (he i h3 (by omega)) fun y hy => ho.2.2.2.2 y (k.lt (he i h3 (by omega)) y hy).2 (by simp [hg1 y (mem_flat h3 hy)])
 ·rw [List.nodup_cons]
  refine ⟨fun hm => ?_, ?_⟩
  ·rcases hset g hm with h | h
   ·exact hg1 g h rfl
   ·exact hg2 g h rfl
  ·have hjv : j < vs.length := by omega
   have e1 : vs = vs.take j ++ vs[j] :: vs.drop (j + 1) := by rw [List.getElem_cons_drop, List.take_append_drop]
   have e2 : vs.set j u = vs.take j ++ u :: vs.drop (j + 1) := List.set_eq_take_append_cons_drop.trans (by rw [if_pos hjv])
   have hnf := (List.nodup_append.1 hnd).2.1
   rw [e2, List.flatMap_append, List.flatMap_cons]
   have hA : (vs.take j).flatMap k.fp ++ (k.fp vs[j] ++ (vs.drop (j + 1)).flatMap k.fp) = vs.flatMap k.fp := by
    rw [<- List.flatMap_cons, <- List.flatMap_append, <- e1]
   rw [<- hA] at hnf
   have q1 := List.nodup_append.1 hnf
   have q2 := List.nodup_append.1 q1.2.1
   have sub1 : ∀ y ∈ (vs.take j).flatMap k.fp, y ∈ vs.flatMap k.fp := fun y hy => by rw [<- hA]; exact List.mem_append_left _ hy
   have sub2 : ∀ y ∈ (vs.drop (j + 1)).flatMap k.fp, y ∈ vs.flatMap k.fp := fun y hy => by rw [<- hA]; exact List.mem_append_right _ (List.mem_append_right _ hy)
   refine nodup_app q1.1 (nodup_app (k.nodup hu) q2.2.1 fun y hy hy2 => hd y hy (List.mem_append_right _ (sub2 y hy2))) fun y hy hy2 => ?_
   rcases List.mem_append.1 hy2 with hy2 | hy2
   ·exact hd y hy2 (List.mem_append_right _ (sub1 y hy))
   ·exact q1.2.2 y hy y (List.mem_append_right _ hy2) rfl
 ·rcases List.mem_cons.1 hb with rfl | hb
  ·exact .inl (by simp [Value.ownBlock])
  ·rcases hset b hb with h | h
   ·exact .inl (List.mem_append_right _ h)
   ·exact .inr h
theorem OwnS.zeros {α : Type} (k : Kd α) {w : World} {base g n : Nat} {z : Value} {c : α} (hz : k.Own w base z c) (hf : k.fp z = []) (h : w.ownsRow base k.T k.K (.slice (some ⟨g, 0, none⟩) n n) n (cellsV (List.replicate n z))) : OwnS k w base (.slice (some ⟨g, 0, none⟩) n n) (List.replicate n c) [g] := by
 refine ⟨List.replicate n z, by simp, by rw [List.length_replicate]; exact h, fun j h1 h2 => by rw [List.getElem_replicate, List.getElem_replicate]; exact hz, ?_, by simp⟩
 have : (List.replicate n z).flatMap k.fp = [] := by
  rw [List.flatMap_eq_nil_iff]
  intro x hx
  rw [List.eq_of_mem_replicate hx, hf]
 rw [this]
 rfl
theorem made_cellsV (z : Value) (n : Nat) (hp : 0 < z.cells.size) : (madeCells z.cells (n * z.cells.size)).toList = cellsV (List.replicate n z) := by
 have hs : ∀ v ∈ List.replicate n z, v.cells.size = z.cells.size := fun v hv => by rw [List.eq_of_mem_replicate hv]
 apply List.ext_getElem?
 intro q
 by_cases hq : q < n * z.cells.size
 ·have hd : q / z.cells.size < n := Nat.div_lt_of_lt_mul (by rw [Nat.mul_comm]; exact hq)
  have hm : q % z.cells.size < z.cells.size := Nat.mod_lt _ hp
  have e : q = q / z.cells.size * z.cells.size + q % z.cells.size := by rw [Nat.mul_comm]; exact (Nat.div_add_mod q z.cells.size).symm
  have h2 := cellsV_at hs (q / z.cells.size) (by rw [List.length_replicate]; exact hd) (q % z.cells.size) hm
  rw [<- e, List.getElem_replicate] at h2
  rw [h2]
  simp [madeCells, hq, getElem!_def, Array.getElem?_eq_getElem hm]
 ·rw [List.getElem?_eq_none (by simp [madeCells]; omega), List.getElem?_eq_none (by rw [cellsV_len hs, List.length_replicate]; omega)]
end Go.Proofs.YtagmnlmfoanelaaGreat
namespace Go.Proofs.YtagmnlmfoanelaaGreat
open Go.RowKit
set_option linter.unusedVariables false
set_option linter.unusedSimpArgs false
theorem sum_take {l : List Nat} {k : Nat} (h : k < l.length) : (l.take (k + 1)).sum = (l.take k).sum + l[k] := by
 rw [List.take_add_one, List.sum_append, List.getElem?_eq_getElem h]
 simp
theorem sum_take_le (l : List Nat) (k : Nat) : (l.take k).sum <= l.sum := by
 have h : (l.take k ++ l.drop k).sum = (l.take k).sum + (l.drop k).sum := List.sum_append
 rw [List.take_append_drop] at h
 omega
end Go.Proofs.YtagmnlmfoanelaaGreat
