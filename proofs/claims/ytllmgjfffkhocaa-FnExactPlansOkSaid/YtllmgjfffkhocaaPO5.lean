/-
  Texts of the proof.
-/
import Derived.Deep.MidRow
import Derived.Test.YtllmgjfffkhocaaPO4
set_option maxRecDepth 100000
set_option maxHeartbeats 25600000
namespace Go.Proofs.Ytllmgjfffkhocaa
open Go.RowKit
set_option linter.unusedVariables false
structure Kd (α : Type) where
 T : TypeId
 K : Nat
 Own : World -> Nat -> Value -> α -> Prop
 At : World -> Value -> α -> Prop
 fp : Value -> List Nat
 pos : 0 < K
 size : ∀ {w : World} {b : Nat} {v : Value} {c : α}, Own w b v c -> v.cells.size = K /\ ∀ x ∈ v.cells.toList, x.oneCell' = true
 same : ∀ {w w' : World} {b : Nat} {v : Value} {c : α}, Own w b v c -> (∀ g ∈ fp v, w'.heap[g]? = w.heap[g]?) -> Own w' b v c
 lt : ∀ {w : World} {b : Nat} {v : Value} {c : α}, Own w b v c -> ∀ g ∈ fp v, b <= g /\ g < w.heap.size
 base : ∀ {w : World} {b b' : Nat} {v : Value} {c : α}, Own w b v c -> b' <= b -> Own w b' v c
 nodup : ∀ {w : World} {b : Nat} {v : Value} {c : α}, Own w b v c -> (fp v).Nodup
 own_at : ∀ {w : World} {b : Nat} {v : Value} {c : α}, Own w b v c -> At w v c
 below : ∀ {w w' : World} {v : Value} {c : α}, At w v c -> Below w.heap.size w w' -> At w' v c
def cellsV (vs : List Value) : List Value := vs.flatMap fun v => v.cells.toList
theorem cellsV_cons (v : Value) (vs : List Value) : cellsV (v :: vs) = v.cells.toList ++ cellsV vs := rfl
theorem cellsV_len {K : Nat} : ∀ {vs : List Value}, (∀ v ∈ vs, v.cells.size = K) -> (cellsV vs).length = vs.length * K
 | [], _ => by simp [cellsV]
 | v :: vs, h => by
  rw [cellsV_cons, List.length_append, cellsV_len (fun x hx => h x (List.mem_cons_of_mem _ hx)), Array.length_toList, h v (List.mem_cons_self ..), List.length_cons, Nat.succ_mul, Nat.add_comm]
theorem cellsV_at {K : Nat} : ∀ {vs : List Value}, (∀ v ∈ vs, v.cells.size = K) -> ∀ (j : Nat) (hj : j < vs.length) (i : Nat), i < K -> (cellsV vs)[j * K + i]? = vs[j].cells[i]?
 | [], _, j, hj, _, _ => absurd hj (Nat.not_lt_zero _)
 | v :: vs, h, 0, _, i, hi => by
  rw [cellsV_cons, Nat.zero_mul, Nat.zero_add, List.getElem?_append_left (by rw [Array.length_toList, h v (List.mem_cons_self ..)]; exact hi), Array.getElem?_toList]
  rfl
 | v :: vs, h, j + 1, hj, i, hi => by
  have hv : v.cells.toList.length = K := by rw [Array.length_toList]; exact h v (List.mem_cons_self ..)
  rw [cellsV_cons, List.getElem?_append_right (by rw [hv, Nat.succ_mul]; omega), hv, show (j + 1) * K + i - K = j * K + i by rw [Nat.succ_mul]; omega, cellsV_at (fun x hx => h x (List.mem_cons_of_mem _ hx)) j (by simpa using hj) i hi]
  rfl
def setMany : List Value -> Nat -> List Value -> List Value
 | xs, _, [] => xs
 | xs, i, u :: us => setMany (xs.set i u) (i + 1) us
def putCells : World -> Nat -> Nat -> List Value -> World
 | w, _, _, [] => w
 | w, g, i, u :: us => putCells (w.setCell ⟨g, i, none⟩ u) g (i + 1) us
theorem setMany_append (a : List Value) : ∀ (us b : List Value) (i : Nat), setMany (a ++ b) (a.length + i) us = a ++ setMany b i us
 | [], b, i => rfl
 | u :: us, b, i => by
  show setMany ((a ++ b).set (a.length + i) u) (a.length + i + 1) us = a ++ setMany (b.set i u) (i + 1) us
  rw [List.set_append_right (a.length + i) u (by omega), Nat.add_sub_cancel_left, Nat.add_assoc, setMany_append a us (b.set i u) (i + 1)]
theorem setMany_head : ∀ (us a b : List Value), us.length = a.length -> setMany (a ++ b) 0 us = us ++ b
 | [], [], b, _ => rfl
 | [], _ :: _, _, h => by simp at h
 | _ :: _, [], _, h => by simp at h
 | u :: us, x :: a, b, h => by
  show setMany (u :: (a ++ b)) 1 us = u :: (us ++ b)
  rw [<- setMany_head us a b (by simpa using h)]
  exact setMany_append [u] us (a ++ b) 0
theorem setMany_cells {K : Nat} : ∀ {vs : List Value}, (∀ v ∈ vs, v.cells.size = K) -> ∀ (j : Nat) (u : Value), j < vs.length -> u.cells.size = K -> setMany (cellsV vs) (j * K) u.cells.toList = cellsV (vs.set j u)
 | [], _, j, _, hj, _ => absurd hj (Nat.not_lt_zero _)
 | v :: vs, h, 0, u, _, hu => by
  rw [cellsV_cons, Nat.zero_mul, setMany_head _ _ _ (by rw [Array.length_toList, Array.length_toList, hu, h v (List.mem_cons_self ..)])]
  rfl
 | v :: vs, h, j + 1, u, hj, hu => by
  have hv : v.cells.toList.length = K := by rw [Array.length_toList]; exact h v (List.mem_cons_self ..)
  rw [cellsV_cons, show (j + 1) * K = v.cells.toList.length + j * K by rw [hv, Nat.succ_mul, Nat.add_comm], setMany_append, setMany_cells (fun x hx => h x (List.mem_cons_of_mem _ hx)) j u (by simpa using hj) hu]
  rfl
theorem putCells_row : ∀ {us : List Value} {w : World} {base g cap n i : Nat} {e : TypeId} {size : Nat} {xs : List Value}, w.ownsRow base e size (.slice (some ⟨g, 0, none⟩) n cap) n xs -> (putCells w g i us).ownsRow base e size (.slice (some ⟨g, 0, none⟩) n cap) n (setMany xs i us)
 | [], _, _, _, _, _, _, _, _, _, h => h
 | u :: us, w, base, g, cap, n, i, e, size, xs, h => putCells_row (us := us) (h.stored i u).1
theorem putCells_out : ∀ (us : List Value) (w : World) (g i : Nat), Out [g] w (putCells w g i us)
 | [], w, g, i => Out.refl _ _
 | u :: us, w, g, i => ((Out.refl [g] w).setCell ⟨g, i, none⟩ u (by simp)).trans (putCells_out us _ g (i + 1))
def OwnS {α : Type} (k : Kd α) (w : World) (base : Nat) (v : Value) (l : List α) (fp : List Nat) : Prop :=
 ∃ vs : List Value, vs.length = l.length /\ w.ownsRow base k.T k.K v l.length (cellsV vs) /\ (∀ j (h1 : j < vs.length) (h2 : j < l.length), k.Own w base vs[j] l[j]) /\ fp = v.ownBlock.toList ++ vs.flatMap k.fp /\ fp.Nodup
def RowS {α : Type} (K B : Nat) (P : Value -> α -> Prop) (w : World) (v : Value) (l : List α) : Prop :=
 ∃ ao cap, v = .slice ao l.length cap /\ ∀ j (h : j < l.length), ∃ g o u, ao = some ⟨g, o, none⟩ /\ g < B /\ P u l[j] /\ u.cells.size = K /\ ∀ i x, u.cells[i]? = some x -> w.cell? ⟨g, o + j * K + i, none⟩ = some x
def AtS {α : Type} (k : Kd α) (w : World) (v : Value) (l : List α) : Prop := RowS k.K w.heap.size (k.At w) w v l
theorem RowS.shape {α : Type} {K B : Nat} {P : Value -> α -> Prop} {w : World} {v : Value} {l : List α} (h : RowS K B P w v l) : ∃ ao cap, v = .slice ao l.length cap := by
 obtain ⟨ao, cap, hv, _⟩ := h
 exact ⟨ao, cap, hv⟩
theorem RowS.get {α : Type} {K B : Nat} {P : Value -> α -> Prop} {w : World} {ao : Option Addr} {n cap : Nat} {l : List α} (h : RowS K B P w (.slice ao n cap) l) {j : Nat} (hj : j < l.length) : ∃ g o u, ao = some ⟨g, o, none⟩ /\ g < B /\ P u l[j] /\ u.cells.size = K /\ ∀ i x, u.cells[i]? = some x -> w.cell? ⟨g, o + j * K + i, none⟩ = some x := by
 obtain ⟨ao', cap', hv, hc⟩ := h
 injection hv with h1 h2 h3
 subst h1
 exact hc j hj
theorem RowS.below {α : Type} {K B : Nat} {P Q : Value -> α -> Prop} {w w' : World} {v : Value} {l : List α} (h : RowS K B P w v l) (hb : Below B w w') (hP : ∀ u c, P u c -> Q u c) {B' : Nat} (hB : B <= B') : RowS K B' Q w' v l := by
 obtain ⟨ao, cap, hv, hc⟩ := h
 refine ⟨ao, cap, hv, fun j hj => ?_⟩
 obtain ⟨g, o, u, h1, h2, h3, h4, h5⟩ := hc j hj
 exact ⟨g, o, u, h1, by omega, hP _ _ h3, h4, fun i x hx => (hb.cell (p := ⟨g, o + j * K + i, none⟩) h2).trans (h5 i x hx)⟩
theorem AtS.below {α : Type} {k : Kd α} {w w' : World} {v : Value} {l : List α} (h : AtS k w v l) (hb : Below w.heap.size w w') : AtS k w' v l := RowS.below h hb (fun _ _ hP => k.below hP hb) hb.size
theorem flat_mem {k : Value -> List Nat} {vs : List Value} {b : Nat} (h : b ∈ vs.flatMap k) : ∃ j, ∃ hj : j < vs.length, b ∈ k vs[j] := by
 obtain ⟨v, hv, hb⟩ := List.mem_flatMap.1 h
 obtain ⟨j, hj, rfl⟩ := List.getElem_of_mem hv
 exact ⟨j, hj, hb⟩
theorem mem_flat {k : Value -> List Nat} {vs : List Value} {j b : Nat} (hj : j < vs.length) (hb : b ∈ k vs[j]) : b ∈ vs.flatMap k := List.mem_flatMap.2 ⟨_, List.getElem_mem hj, hb⟩
theorem OwnS.lt {α : Type} {k : Kd α} {w : World} {base : Nat} {v : Value} {l : List α} {fp : List Nat} (h : OwnS k w base v l fp) : ∀ b ∈ fp, base <= b /\ b < w.heap.size := by
 obtain ⟨vs, hl, hr, he, rfl, hn⟩ := h
 intro b hb
 rcases List.mem_append.1 hb with hb | hb
 ·exact hr.lt b (Option.mem_toList.1 hb)
 ·obtain ⟨j, hj, hbj⟩ := flat_mem hb
  exact k.lt (he j hj (by omega)) b hbj
theorem OwnS.nodup {α : Type} {k : Kd α} {w : World} {base : Nat} {v : Value} {l : List α} {fp : List Nat} (h : OwnS k w base v l fp) : fp.Nodup := by
 obtain ⟨vs, hl, hr, he, hf, hn⟩ := h
 exact hn
theorem row_same {w w' : World} {base : Nat} {e : TypeId} {size : Nat} {v : Value} {n : Nat} {xs : List Value} (h : w.ownsRow base e size v n xs) (hs : ∀ g, v.ownBlock = some g -> w'.heap[g]? = w.heap[g]?) : w'.ownsRow base e size v n xs := by
 obtain ⟨h1, h2⟩ := h
 refine ⟨h1, ?_⟩
 rcases h2 with h2 | ⟨g, cap, cur, hv, hbg, hg, r⟩
 ·exact .inl h2
 ·exact .inr ⟨g, cap, cur, hv, hbg, (hs g (by rw [hv]; rfl)).trans hg, r⟩
theorem OwnS.same {α : Type} {k : Kd α} {w w' : World} {base : Nat} {v : Value} {l : List α} {fp : List Nat} (h : OwnS k w base v l fp) (hs : ∀ b ∈ fp, w'.heap[b]? = w.heap[b]?) : OwnS k w' base v l fp := by
 obtain ⟨vs, hl, hr, he, rfl, hn⟩ := h
 refine ⟨vs, hl, row_same hr (fun g hg => hs g (List.mem_append_left _ (Option.mem_toList.2 hg))), fun j h1 h2 => k.same (he j h1 h2) fun g hg => hs g (List.mem_append_right _ (mem_flat h1 hg)), rfl, hn⟩
theorem OwnS.stays {α : Type} {k : Kd α} {w w' : World} {base : Nat} {v : Value} {l : List α} {fp : List Nat} (h : OwnS k w base v l fp) (hb : Below w.heap.size w w') : OwnS k w' base v l fp := h.same fun b hm => hb.block b (h.lt b hm).2
theorem OwnS.base {α : Type} {k : Kd α} {w : World} {b b' : Nat} {v : Value} {l : List α} {fp : List Nat} (h : OwnS k w b v l fp) (hb : b' <= b) : OwnS k w b' v l fp := by
 obtain ⟨vs, hl, hr, he, hf, hn⟩ := h
 refine ⟨vs, hl, ⟨hr.1, ?_⟩, fun j h1 h2 => k.base (he j h1 h2) hb, hf, hn⟩
 rcases hr.2 with h2 | ⟨g, cap, cur, hv, hbg, r⟩
 ·exact .inl h2
 ·exact .inr ⟨g, cap, cur, hv, Nat.le_trans hb hbg, r⟩
theorem OwnS.sizes {α : Type} {k : Kd α} {w : World} {base : Nat} {l : List α} {vs : List Value} (hl : vs.length = l.length) (he : ∀ j (h1 : j < vs.length) (h2 : j < l.length), k.Own w base vs[j] l[j]) : ∀ v ∈ vs, v.cells.size = k.K := fun v hv => by
 obtain ⟨j, hj, rfl⟩ := List.getElem_of_mem hv
 exact (k.size (he j hj (by omega))).1
theorem OwnS.at {α : Type} {k : Kd α} {w : World} {base : Nat} {v : Value} {l : List α} {fp : List Nat} (h : OwnS k w base v l fp) : AtS k w v l := by
 obtain ⟨vs, hl, hr, he, hf, hn⟩ := h
 have hlt := hr.lt
 have hsz := OwnS.sizes hl he
 have hr' := hr
 rcases hr.2 with ⟨hv, h0⟩ | ⟨g, cap, cur, hv, hbg, hg, hnc, hcm, hcs, htk⟩
 ·exact ⟨none, 0, by rw [hv, h0], fun j hj => by omega⟩
 ·refine ⟨some ⟨g, 0, none⟩, cap, hv, fun j hj => ⟨g, 0, vs[j]'(by omega), rfl, (hlt g (by rw [hv]; rfl)).2, k.own_at (he j (by omega) hj), hsz _ (List.getElem_mem _), fun i x hx => ?_⟩⟩
  have hi : i < k.K := by
   have := (Array.getElem?_eq_some_iff.1 hx).1
   rw [hsz _ (List.getElem_mem _)] at this
   exact this
  rw [hv] at hr'
  have hjK : j * k.K + i < l.length * k.K := by
   have := Nat.mul_le_mul_right k.K (show j + 1 <= l.length by omega)
   rw [Nat.succ_mul] at this
   omega
  rw [Nat.zero_add, World.ownsRow.cellAt hr' _ hjK, cellsV_at hsz j (by omega) i hi]
  exact hx
theorem OwnS.put {α : Type} {k : Kd α} {w : World} {base g n cap : Nat} {l : List α} {fp : List Nat} (h : OwnS k w base (.slice (some ⟨g, 0, none⟩) n cap) l fp) (hn : n = l.length) {j : Nat} (hj : j < l.length) {u : Value} {c : α} (hu : k.Own w base u c) (hd : ∀ b ∈ k.fp u, b ∉ fp) :
  ∃ fp', OwnS k (putCells w g (j * k.K) u.cells.toList) base (.slice (some ⟨g, 0, none⟩) n cap) (l.set j c) fp' /\ ∀ b ∈ fp', b ∈ fp ∨ b ∈ k.fp u := by
 subst hn
 obtain ⟨vs, hl, hr, he, rfl, hnd⟩ := h
 have hsz := OwnS.sizes hl he
 have ho := putCells_out u.cells.toList w g (j * k.K)
 have hg1 : ∀ y, y ∈ vs.flatMap k.fp -> y ≠ g := fun y hy e => (List.nodup_append.1 hnd).2.2 g (by simp [Value.ownBlock]) y hy e.symm
 have hg2 : ∀ y, y ∈ k.fp u -> y ≠ g := fun y hy e => hd y hy (by rw [e]; simp [Value.ownBlock])
 have hset : ∀ y, y ∈ (vs.set j u).flatMap k.fp -> y ∈ vs.flatMap k.fp ∨ y ∈ k.fp u := fun y hy => by
  obtain ⟨x, hx, hyx⟩ := List.mem_flatMap.1 hy
  rcases List.mem_or_eq_of_mem_set hx with hx | rfl
  ·exact .inl (List.mem_flatMap.2 ⟨x, hx, hyx⟩)
  ·exact .inr hyx
 refine ⟨g :: (vs.set j u).flatMap k.fp, ⟨vs.set j u, by simp [hl], ?_, fun i h1 h2 => ?_, rfl, ?_⟩, fun b hb => ?_⟩
 ·rw [List.length_set, <- setMany_cells hsz j u (by omega) (k.size hu).1]
  exact putCells_row hr
 ·rw [List.getElem_set, List.getElem_set]
  by_cases e : j = i
  ·rw [if_pos e, if_pos e]
   exact k.same hu fun y hy => ho.2.2.2.2 y (k.lt hu y hy).2 (by simp [hg2 y hy])
  ·rw [if_neg e, if_neg e]
   have h3 : i < vs.length := by simpa using h1
   exact k.same (he i h3 (by omega)) fun y hy => ho.2.2.2.2 y (k.lt (he i h3 (by omega)) y hy).2 (by simp [hg1 y (mem_flat h3 hy)])
 ·rw [List.nodup_cons]
  refine ⟨fun hm => ?_, ?_⟩
  ·rcases hset g hm with h | h
   ·exact hg1 g h rfl
   ·exact hg2 g h rfl
  ·have hjv : j < vs.length := by omega
   have e1 : vs = vs.take j ++ vs[j] :: vs.drop (j + 1) := by rw [List.getElem_cons_drop, List.take_append_drop]
   have e2 : vs.set j u = vs.take j ++ u :: vs.drop (j + 1) := List.set_eq_take_append_cons_drop.trans (by rw [if_pos hjv])
   have hnf := (List.nodup_append.1 hnd).2.1
   rw [e2, List.flatMap_append, List.flatMap_cons]
   have hA : (vs.take j).flatMap k.fp ++ (k.fp vs[j] ++ (vs.drop (j + 1)).flatMap k.fp) = vs.flatMap k.fp := by
    rw [<- List.flatMap_cons, <- List.flatMap_append, <- e1]
   rw [<- hA] at hnf
   have q1 := List.nodup_append.1 hnf
   have q2 := List.nodup_append.1 q1.2.1
   have sub1 : ∀ y ∈ (vs.take j).flatMap k.fp, y ∈ vs.flatMap k.fp := fun y hy => by rw [<- hA]; exact List.mem_append_left _ hy
   have sub2 : ∀ y ∈ (vs.drop (j + 1)).flatMap k.fp, y ∈ vs.flatMap k.fp := fun y hy => by rw [<- hA]; exact List.mem_append_right _ (List.mem_append_right _ hy)
   refine nodup_app q1.1 (nodup_app (k.nodup hu) q2.2.1 fun y hy hy2 => hd y hy (List.mem_append_right _ (sub2 y hy2))) fun y hy hy2 => ?_
   rcases List.mem_append.1 hy2 with hy2 | hy2
   ·exact hd y hy2 (List.mem_append_right _ (sub1 y hy))
   ·exact q1.2.2 y hy y (List.mem_append_right _ hy2) rfl
 ·rcases List.mem_cons.1 hb with rfl | hb
  ·exact .inl (by simp [Value.ownBlock])
  ·rcases hset b hb with h | h
   ·exact .inl (List.mem_append_right _ h)
   ·exact .inr h
theorem OwnS.zeros {α : Type} (k : Kd α) {w : World} {base g n : Nat} {z : Value} {c : α} (hz : k.Own w base z c) (hf : k.fp z = []) (h : w.ownsRow base k.T k.K (.slice (some ⟨g, 0, none⟩) n n) n (cellsV (List.replicate n z))) : OwnS k w base (.slice (some ⟨g, 0, none⟩) n n) (List.replicate n c) [g] := by
 refine ⟨List.replicate n z, by simp, by rw [List.length_replicate]; exact h, fun j h1 h2 => by rw [List.getElem_replicate, List.getElem_replicate]; exact hz, ?_, by simp⟩
 have : (List.replicate n z).flatMap k.fp = [] := by
  rw [List.flatMap_eq_nil_iff]
  intro x hx
  rw [List.eq_of_mem_replicate hx, hf]
 rw [this]
 rfl
theorem made_cellsV (z : Value) (n : Nat) (hp : 0 < z.cells.size) : (madeCells z.cells (n * z.cells.size)).toList = cellsV (List.replicate n z) := by
 have hs : ∀ v ∈ List.replicate n z, v.cells.size = z.cells.size := fun v hv => by rw [List.eq_of_mem_replicate hv]
 apply List.ext_getElem?
 intro q
 by_cases hq : q < n * z.cells.size
 ·have hd : q / z.cells.size < n := Nat.div_lt_of_lt_mul (by rw [Nat.mul_comm]; exact hq)
  have hm : q % z.cells.size < z.cells.size := Nat.mod_lt _ hp
  have e : q = q / z.cells.size * z.cells.size + q % z.cells.size := by rw [Nat.mul_comm]; exact (Nat.div_add_mod q z.cells.size).symm
  have h2 := cellsV_at hs (q / z.cells.size) (by rw [List.length_replicate]; exact hd) (q % z.cells.size) hm
  rw [<- e, List.getElem_replicate] at h2
  rw [h2]
  simp [madeCells, hq, getElem!_def, Array.getElem?_eq_getElem hm]
 ·rw [List.getElem?_eq_none (by simp [madeCells]; omega), List.getElem?_eq_none (by rw [cellsV_len hs, List.length_replicate]; omega)]
theorem step_storeV {P : Program} {ops : Array Oper} {rest : List Oper} {op : Oper} {a : Act} {w V : World} {Q : Exit -> Act -> World -> Prop} (hgd : op.guard = none) (ty : TypeId) (x y : Operand) (ho : op.op = .store ty x y) (b o : Nat) (cells : Array Value) (hx : a.eval x = .pointer (some ⟨b, o, none⟩)) (hy : a.eval y = .agg cells)
  (ht : w.there b o cells.size) (hi : (P.info? ty).map (·.size) = some cells.size) (h1 : cells.all (·.oneCell') = true) (hV : V = w.setCells b o cells.toList) (h : wpList P ops Q rest (a.put op.dst undef) V) : wpList P ops Q (op :: rest) a w := by
 subst hV
 exact wpList_store_mid hgd ty x y ho b o cells hx hy ht hi h1 h
theorem putCells_set : ∀ (us : List Value) (w : World) (g i : Nat), putCells w g i us = w.setCells g i us
 | [], _, _, _ => rfl
 | u :: us, w, g, i => putCells_set us (w.setCell ⟨g, i, none⟩ u) g (i + 1)
theorem Blk.there {w : World} {b : Nat} {t : TypeId} {vs : Array Value} (h : Blk w b t vs) {n : Nat} (hn : n = vs.size) : w.there b 0 n := fun j hj => by
 rw [Nat.zero_add]
 refine ⟨?_, h.free j⟩
 rw [h.cell j, Array.getElem?_eq_getElem (by omega)]
 rfl
theorem Blk.setMany : ∀ (us : List Value) {w : World} {b : Nat} {t : TypeId} {vs : List Value} (i : Nat), Blk w b t vs.toArray -> Blk (w.setCells b i us) b t (Go.Proofs.Ytllmgjfffkhocaa.setMany vs i us).toArray
 | [], _, _, _, _, _, h => h
 | u :: us, w, b, t, vs, i, h => Blk.setMany us (i + 1) (by have h2 := h.set i u; rw [List.setIfInBounds_toArray] at h2; exact h2)
theorem Blk.setAll {w : World} {b : Nat} {t : TypeId} {vs cells : Array Value} (h : Blk w b t vs) (hl : cells.size = vs.size) : Blk (w.setCells b 0 cells.toList) b t cells := by
 have h2 := Blk.setMany cells.toList (vs := vs.toList) 0 h
 have h3 := setMany_head cells.toList vs.toList [] (by rw [Array.length_toList, Array.length_toList, hl])
 rw [List.append_nil, List.append_nil] at h3
 rw [h3] at h2
 exact h2
theorem setCells_out (us : List Value) (w : World) (g i : Nat) : Out [g] w (w.setCells g i us) := by rw [<- putCells_set]; exact putCells_out us w g i
theorem fresh_store {w V : World} {t : TypeId} {Z cells : Array Value} (hV : V = (w.alloc (.cells Z t)).setCells w.heap.size 0 cells.toList) (hl : cells.size = Z.size) : Below w.heap.size w V /\ Blk V w.heap.size t cells := by
 rw [hV]
 exact ⟨((Below.refl _ _).alloc (Nat.le_refl _) _).trans ((setCells_out _ _ _ _).below (fun b hb => by rw [List.mem_singleton.1 hb]; exact Nat.le_refl _) (by rw [size_alloc]; omega)), (Blk.new w t Z).setAll hl⟩
theorem szCert_any (c : Ct) (v : Value) (left : Int) (w : World) (hwd : WdC c) (h0 : 0 <= left) (hl : left <= 1048576) (ha : ArgC w.heap.size w v c) :
  Calls Try.prog 69 #[v, .int .i64 left] w fun e w' => e = .returned (.int .i64 (szC c left)) /\ Below w.heap.size w w' := by
 obtain ⟨pa, pc, ea, ec, da, dc, rfl, h1, h2, h3⟩ := ha
 obtain ⟨_, _, hs, hpe, hde, hpl, hel, hdl⟩ := hwd
 have s1 : c.issuer.size <= 9223372036854775807 := hs _ (by simp)
 have s2 : c.subject.size <= 9223372036854775807 := hs _ (by simp)
 have s3 : c.key.size <= 9223372036854775807 := hs _ (by simp)
 have s7 : c.sig.size <= 9223372036854775807 := hs _ (by simp)
 have HA : Hid (ArgAt w.heap.size w pa c.pol /\ ArgT w.heap.size w ea c.per /\ ArgT w.heap.size w da c.den /\ WdT c.per /\ WdT c.den) := ⟨h1, h2, h3, hpe, hde⟩
 clear h1 h2 h3 hs hpe hde
 have HW : Hid ((wtC c : Int) = c.issuer.size + c.subject.size + c.key.size + c.pol.length + totT c.per + totT c.den + c.sig.size) := by show (wtC c : Int) = _; unfold wtC; omega
 unfold ctV
 obtain ⟨r1, hr1⟩ : ∃ r : Int, r = left - (c.issuer.size : Int) := ⟨_, rfl⟩
 have wr1 : IntKind.i64.wrap (left - (c.issuer.size : Int)) = r1 := by rw [IntKind.wrap_i64]; omega
 by_cases g1 : r1 < 0
 ·have HF : Hid (szC c left = -1) := by show szC c left = _; have hw := HW.out; unfold szC; rw [if_neg (by omega)]
  clear HW hr1
  go_enter Try.func69, Try.ntmps69
  go_wp2_with fail
  go_ret
  exact ⟨by rw [HF.out]; rfl, (Below.refl _ _).alloc (Nat.le_refl _) _⟩
 obtain ⟨r2, hr2⟩ : ∃ r : Int, r = r1 - (c.subject.size : Int) := ⟨_, rfl⟩
 have wr2 : IntKind.i64.wrap (r1 - (c.subject.size : Int)) = r2 := by rw [IntKind.wrap_i64]; omega
 by_cases g2 : r2 < 0
 ·have HF : Hid (szC c left = -1) := by show szC c left = _; have hw := HW.out; unfold szC; rw [if_neg (by omega)]
  clear HW hr1 hr2
  go_enter Try.func69, Try.ntmps69
  go_wp2_with fail
  go_ret
  exact ⟨by rw [HF.out]; rfl, (Below.refl _ _).alloc (Nat.le_refl _) _⟩
 obtain ⟨r3, hr3⟩ : ∃ r : Int, r = r2 - (c.key.size : Int) := ⟨_, rfl⟩
 have wr3 : IntKind.i64.wrap (r2 - (c.key.size : Int)) = r3 := by rw [IntKind.wrap_i64]; omega
 by_cases g3 : r3 < 0
 ·have HF : Hid (szC c left = -1) := by show szC c left = _; have hw := HW.out; unfold szC; rw [if_neg (by omega)]
  clear HW hr1 hr2 hr3
  go_enter Try.func69, Try.ntmps69
  go_wp2_with fail
  go_ret
  exact ⟨by rw [HF.out]; rfl, (Below.refl _ _).alloc (Nat.le_refl _) _⟩
 obtain ⟨r4, hr4⟩ : ∃ r : Int, r = if (c.pol.length : Int) <= r3 then r3 - (c.pol.length : Int) else -1 := ⟨_, rfl⟩
 have Z4 : Hid (∀ W, Below w.heap.size w W -> Calls Try.prog 49 #[.slice pa c.pol.length pc, .int .i64 r3] W fun e w' => e = .returned (.int .i64 r4) /\ Below W.heap.size W w') := fun W hb => by rw [hr4]; exact szIntS_any pa c.pol.length pc r3 W hpl (by omega) (by omega)
 by_cases g4 : r4 < 0
 ·have HF : Hid (szC c left = -1) := by show szC c left = _; have hw := HW.out; unfold szC; rw [if_neg (by split at hr4 <;> omega)]
  clear HW hr1 hr2 hr3 hr4
  go_enter Try.func69, Try.ntmps69
  go_wp2_with fail
  obtain ⟨V, hV⟩ : ∃ V, V = w.alloc (Obj.cells #[.int .i64 c.serial, .string c.issuer, .string c.subject, .int .i64 c.frm, .int .i64 c.upto, .string c.key, .bool c.ca, .int .i64 c.pathLen, .int .i64 c.usage, .slice pa c.pol.length pc, .slice ea c.per.length ec, .slice da c.den.length dc, .string c.sig] 104) := ⟨_, rfl⟩
  rw [<- hV]
  have G : Hid (Blk V w.heap.size 104 #[.int .i64 c.serial, .string c.issuer, .string c.subject, .int .i64 c.frm, .int .i64 c.upto, .string c.key, .bool c.ca, .int .i64 c.pathLen, .int .i64 c.usage, .slice pa c.pol.length pc, .slice ea c.per.length ec, .slice da c.den.length dc, .string c.sig] /\ Below w.heap.size w V) := by rw [hV]; exact ⟨Blk.new w _ _, (Below.refl _ _).alloc (Nat.le_refl _) _⟩
  have hsz : w.heap.size < V.heap.size := G.out.1.lt
  clear hV
  refine (Z4.out V G.out.2).mono ?_
  rintro e V4 ⟨rfl, hb⟩
  have G4 : Hid (Blk V4 w.heap.size 104 #[.int .i64 c.serial, .string c.issuer, .string c.subject, .int .i64 c.frm, .int .i64 c.upto, .string c.key, .bool c.ca, .int .i64 c.pathLen, .int .i64 c.usage, .slice pa c.pol.length pc, .slice ea c.per.length ec, .slice da c.den.length dc, .string c.sig] /\ Below w.heap.size w V4) := ⟨G.out.1.below hb hsz, G.out.2.trans (hb.mono G.out.2.size)⟩
  have hsz4 : w.heap.size < V4.heap.size := Nat.lt_of_lt_of_le hsz hb.size
  clear hb G hsz
  go_wp2_with fail
  go_ret
  exact ⟨by rw [HF.out]; rfl, G4.out.2⟩
 have hq4 : r4 = r3 - (c.pol.length : Int) := by split at hr4 <;> omega
 clear hr4
 have hr4 := hq4
 clear hq4
 obtain ⟨r5, hr5⟩ : ∃ r : Int, r = szT c.per r4 := ⟨_, rfl⟩
 have Z5 : Hid (∀ W, Below w.heap.size w W -> Calls Try.prog 51 #[.slice ea c.per.length ec, .int .i64 r4] W fun e w' => e = .returned (.int .i64 r5) /\ Below W.heap.size W w') := fun W hb => by rw [hr5]; exact szStringS_any ea c.per c.per.length ec w.heap.size r4 W rfl hel HA.out.2.2.2.1 (by omega) (by omega) hb.size (HA.out.2.1.below hb)
 unfold szT at hr5
 by_cases g5 : r5 < 0
 ·have HF : Hid (szC c left = -1) := by show szC c left = _; have hw := HW.out; unfold szC; rw [if_neg (by split at hr5 <;> omega)]
  clear HW hr1 hr2 hr3 hr4 hr5
  go_enter Try.func69, Try.ntmps69
  go_wp2_with fail
  obtain ⟨V, hV⟩ : ∃ V, V = w.alloc (Obj.cells #[.int .i64 c.serial, .string c.issuer, .string c.subject, .int .i64 c.frm, .int .i64 c.upto, .string c.key, .bool c.ca, .int .i64 c.pathLen, .int .i64 c.usage, .slice pa c.pol.length pc, .slice ea c.per.length ec, .slice da c.den.length dc, .string c.sig] 104) := ⟨_, rfl⟩
  rw [<- hV]
  have G : Hid (Blk V w.heap.size 104 #[.int .i64 c.serial, .string c.issuer, .string c.subject, .int .i64 c.frm, .int .i64 c.upto, .string c.key, .bool c.ca, .int .i64 c.pathLen, .int .i64 c.usage, .slice pa c.pol.length pc, .slice ea c.per.length ec, .slice da c.den.length dc, .string c.sig] /\ Below w.heap.size w V) := by rw [hV]; exact ⟨Blk.new w _ _, (Below.refl _ _).alloc (Nat.le_refl _) _⟩
  have hsz : w.heap.size < V.heap.size := G.out.1.lt
  clear hV
  refine (Z4.out V G.out.2).mono ?_
  rintro e V4 ⟨rfl, hb⟩
  have G4 : Hid (Blk V4 w.heap.size 104 #[.int .i64 c.serial, .string c.issuer, .string c.subject, .int .i64 c.frm, .int .i64 c.upto, .string c.key, .bool c.ca, .int .i64 c.pathLen, .int .i64 c.usage, .slice pa c.pol.length pc, .slice ea c.per.length ec, .slice da c.den.length dc, .string c.sig] /\ Below w.heap.size w V4) := ⟨G.out.1.below hb hsz, G.out.2.trans (hb.mono G.out.2.size)⟩
  have hsz4 : w.heap.size < V4.heap.size := Nat.lt_of_lt_of_le hsz hb.size
  clear hb G hsz
  have ca : V4.cell? ⟨w.heap.size, 10, none⟩ = some (.slice ea c.per.length ec) := G4.out.1.cell 10
  go_wp2_with fail
  clear ca
  refine (Z5.out V4 G4.out.2).mono ?_
  rintro e V5 ⟨rfl, hb⟩
  have G5 : Hid (Blk V5 w.heap.size 104 #[.int .i64 c.serial, .string c.issuer, .string c.subject, .int .i64 c.frm, .int .i64 c.upto, .string c.key, .bool c.ca, .int .i64 c.pathLen, .int .i64 c.usage, .slice pa c.pol.length pc, .slice ea c.per.length ec, .slice da c.den.length dc, .string c.sig] /\ Below w.heap.size w V5) := ⟨G4.out.1.below hb hsz4, G4.out.2.trans (hb.mono G4.out.2.size)⟩
  have hsz5 : w.heap.size < V5.heap.size := Nat.lt_of_lt_of_le hsz4 hb.size
  clear hb G4 hsz4
  go_wp2_with fail
  go_ret
  exact ⟨by rw [HF.out]; rfl, G5.out.2⟩
 have hq5 : r5 = r4 - (totT c.per : Int) := by split at hr5 <;> omega
 clear hr5
 have hr5 := hq5
 clear hq5
 obtain ⟨r6, hr6⟩ : ∃ r : Int, r = szT c.den r5 := ⟨_, rfl⟩
 have Z6 : Hid (∀ W, Below w.heap.size w W -> Calls Try.prog 51 #[.slice da c.den.length dc, .int .i64 r5] W fun e w' => e = .returned (.int .i64 r6) /\ Below W.heap.size W w') := fun W hb => by rw [hr6]; exact szStringS_any da c.den c.den.length dc w.heap.size r5 W rfl hdl HA.out.2.2.2.2 (by omega) (by omega) hb.size (HA.out.2.2.1.below hb)
 unfold szT at hr6
 by_cases g6 : r6 < 0
 ·have HF : Hid (szC c left = -1) := by show szC c left = _; have hw := HW.out; unfold szC; rw [if_neg (by split at hr6 <;> omega)]
  clear HW hr1 hr2 hr3 hr4 hr5 hr6
  go_enter Try.func69, Try.ntmps69
  go_wp2_with fail
  obtain ⟨V, hV⟩ : ∃ V, V = w.alloc (Obj.cells #[.int .i64 c.serial, .string c.issuer, .string c.subject, .int .i64 c.frm, .int .i64 c.upto, .string c.key, .bool c.ca, .int .i64 c.pathLen, .int .i64 c.usage, .slice pa c.pol.length pc, .slice ea c.per.length ec, .slice da c.den.length dc, .string c.sig] 104) := ⟨_, rfl⟩
  rw [<- hV]
  have G : Hid (Blk V w.heap.size 104 #[.int .i64 c.serial, .string c.issuer, .string c.subject, .int .i64 c.frm, .int .i64 c.upto, .string c.key, .bool c.ca, .int .i64 c.pathLen, .int .i64 c.usage, .slice pa c.pol.length pc, .slice ea c.per.length ec, .slice da c.den.length dc, .string c.sig] /\ Below w.heap.size w V) := by rw [hV]; exact ⟨Blk.new w _ _, (Below.refl _ _).alloc (Nat.le_refl _) _⟩
  have hsz : w.heap.size < V.heap.size := G.out.1.lt
  clear hV
  refine (Z4.out V G.out.2).mono ?_
  rintro e V4 ⟨rfl, hb⟩
  have G4 : Hid (Blk V4 w.heap.size 104 #[.int .i64 c.serial, .string c.issuer, .string c.subject, .int .i64 c.frm, .int .i64 c.upto, .string c.key, .bool c.ca, .int .i64 c.pathLen, .int .i64 c.usage, .slice pa c.pol.length pc, .slice ea c.per.length ec, .slice da c.den.length dc, .string c.sig] /\ Below w.heap.size w V4) := ⟨G.out.1.below hb hsz, G.out.2.trans (hb.mono G.out.2.size)⟩
  have hsz4 : w.heap.size < V4.heap.size := Nat.lt_of_lt_of_le hsz hb.size
  clear hb G hsz
  have ca : V4.cell? ⟨w.heap.size, 10, none⟩ = some (.slice ea c.per.length ec) := G4.out.1.cell 10
  go_wp2_with fail
  clear ca
  refine (Z5.out V4 G4.out.2).mono ?_
  rintro e V5 ⟨rfl, hb⟩
  have G5 : Hid (Blk V5 w.heap.size 104 #[.int .i64 c.serial, .string c.issuer, .string c.subject, .int .i64 c.frm, .int .i64 c.upto, .string c.key, .bool c.ca, .int .i64 c.pathLen, .int .i64 c.usage, .slice pa c.pol.length pc, .slice ea c.per.length ec, .slice da c.den.length dc, .string c.sig] /\ Below w.heap.size w V5) := ⟨G4.out.1.below hb hsz4, G4.out.2.trans (hb.mono G4.out.2.size)⟩
  have hsz5 : w.heap.size < V5.heap.size := Nat.lt_of_lt_of_le hsz4 hb.size
  clear hb G4 hsz4
  have ca : V5.cell? ⟨w.heap.size, 11, none⟩ = some (.slice da c.den.length dc) := G5.out.1.cell 11
  go_wp2_with fail
  clear ca
  refine (Z6.out V5 G5.out.2).mono ?_
  rintro e V6 ⟨rfl, hb⟩
  have G6 : Hid (Blk V6 w.heap.size 104 #[.int .i64 c.serial, .string c.issuer, .string c.subject, .int .i64 c.frm, .int .i64 c.upto, .string c.key, .bool c.ca, .int .i64 c.pathLen, .int .i64 c.usage, .slice pa c.pol.length pc, .slice ea c.per.length ec, .slice da c.den.length dc, .string c.sig] /\ Below w.heap.size w V6) := ⟨G5.out.1.below hb hsz5, G5.out.2.trans (hb.mono G5.out.2.size)⟩
  have hsz6 : w.heap.size < V6.heap.size := Nat.lt_of_lt_of_le hsz5 hb.size
  clear hb G5 hsz5
  go_wp2_with fail
  go_ret
  exact ⟨by rw [HF.out]; rfl, G6.out.2⟩
 have hq6 : r6 = r5 - (totT c.den : Int) := by split at hr6 <;> omega
 clear hr6
 have hr6 := hq6
 clear hq6
 obtain ⟨r7, hr7⟩ : ∃ r : Int, r = r6 - (c.sig.size : Int) := ⟨_, rfl⟩
 have wr7 : IntKind.i64.wrap (r6 - (c.sig.size : Int)) = r7 := by rw [IntKind.wrap_i64]; omega
 by_cases g7 : r7 < 0
 ·have HF : Hid (szC c left = -1) := by show szC c left = _; have hw := HW.out; unfold szC; rw [if_neg (by omega)]
  clear HW hr1 hr2 hr3 hr4 hr5 hr6 hr7
  go_enter Try.func69, Try.ntmps69
  go_wp2_with fail
  obtain ⟨V, hV⟩ : ∃ V, V = w.alloc (Obj.cells #[.int .i64 c.serial, .string c.issuer, .string c.subject, .int .i64 c.frm, .int .i64 c.upto, .string c.key, .bool c.ca, .int .i64 c.pathLen, .int .i64 c.usage, .slice pa c.pol.length pc, .slice ea c.per.length ec, .slice da c.den.length dc, .string c.sig] 104) := ⟨_, rfl⟩
  rw [<- hV]
  have G : Hid (Blk V w.heap.size 104 #[.int .i64 c.serial, .string c.issuer, .string c.subject, .int .i64 c.frm, .int .i64 c.upto, .string c.key, .bool c.ca, .int .i64 c.pathLen, .int .i64 c.usage, .slice pa c.pol.length pc, .slice ea c.per.length ec, .slice da c.den.length dc, .string c.sig] /\ Below w.heap.size w V) := by rw [hV]; exact ⟨Blk.new w _ _, (Below.refl _ _).alloc (Nat.le_refl _) _⟩
  have hsz : w.heap.size < V.heap.size := G.out.1.lt
  clear hV
  refine (Z4.out V G.out.2).mono ?_
  rintro e V4 ⟨rfl, hb⟩
  have G4 : Hid (Blk V4 w.heap.size 104 #[.int .i64 c.serial, .string c.issuer, .string c.subject, .int .i64 c.frm, .int .i64 c.upto, .string c.key, .bool c.ca, .int .i64 c.pathLen, .int .i64 c.usage, .slice pa c.pol.length pc, .slice ea c.per.length ec, .slice da c.den.length dc, .string c.sig] /\ Below w.heap.size w V4) := ⟨G.out.1.below hb hsz, G.out.2.trans (hb.mono G.out.2.size)⟩
  have hsz4 : w.heap.size < V4.heap.size := Nat.lt_of_lt_of_le hsz hb.size
  clear hb G hsz
  have ca : V4.cell? ⟨w.heap.size, 10, none⟩ = some (.slice ea c.per.length ec) := G4.out.1.cell 10
  go_wp2_with fail
  clear ca
  refine (Z5.out V4 G4.out.2).mono ?_
  rintro e V5 ⟨rfl, hb⟩
  have G5 : Hid (Blk V5 w.heap.size 104 #[.int .i64 c.serial, .string c.issuer, .string c.subject, .int .i64 c.frm, .int .i64 c.upto, .string c.key, .bool c.ca, .int .i64 c.pathLen, .int .i64 c.usage, .slice pa c.pol.length pc, .slice ea c.per.length ec, .slice da c.den.length dc, .string c.sig] /\ Below w.heap.size w V5) := ⟨G4.out.1.below hb hsz4, G4.out.2.trans (hb.mono G4.out.2.size)⟩
  have hsz5 : w.heap.size < V5.heap.size := Nat.lt_of_lt_of_le hsz4 hb.size
  clear hb G4 hsz4
  have ca : V5.cell? ⟨w.heap.size, 11, none⟩ = some (.slice da c.den.length dc) := G5.out.1.cell 11
  go_wp2_with fail
  clear ca
  refine (Z6.out V5 G5.out.2).mono ?_
  rintro e V6 ⟨rfl, hb⟩
  have G6 : Hid (Blk V6 w.heap.size 104 #[.int .i64 c.serial, .string c.issuer, .string c.subject, .int .i64 c.frm, .int .i64 c.upto, .string c.key, .bool c.ca, .int .i64 c.pathLen, .int .i64 c.usage, .slice pa c.pol.length pc, .slice ea c.per.length ec, .slice da c.den.length dc, .string c.sig] /\ Below w.heap.size w V6) := ⟨G5.out.1.below hb hsz5, G5.out.2.trans (hb.mono G5.out.2.size)⟩
  have hsz6 : w.heap.size < V6.heap.size := Nat.lt_of_lt_of_le hsz5 hb.size
  clear hb G5 hsz5
  have ca : V6.cell? ⟨w.heap.size, 12, none⟩ = some (.string c.sig) := G6.out.1.cell 12
  go_wp2_with fail
  skip
  go_ret
  exact ⟨by rw [HF.out]; rfl, G6.out.2⟩
 have HF : Hid (szC c left = r7) := by show szC c left = _; have hw := HW.out; unfold szC; rw [if_pos (by omega)]; omega
 clear HW hr1 hr2 hr3 hr4 hr5 hr6 hr7
 go_enter Try.func69, Try.ntmps69
 go_wp2_with fail
 obtain ⟨V, hV⟩ : ∃ V, V = w.alloc (Obj.cells #[.int .i64 c.serial, .string c.issuer, .string c.subject, .int .i64 c.frm, .int .i64 c.upto, .string c.key, .bool c.ca, .int .i64 c.pathLen, .int .i64 c.usage, .slice pa c.pol.length pc, .slice ea c.per.length ec, .slice da c.den.length dc, .string c.sig] 104) := ⟨_, rfl⟩
 rw [<- hV]
 have G : Hid (Blk V w.heap.size 104 #[.int .i64 c.serial, .string c.issuer, .string c.subject, .int .i64 c.frm, .int .i64 c.upto, .string c.key, .bool c.ca, .int .i64 c.pathLen, .int .i64 c.usage, .slice pa c.pol.length pc, .slice ea c.per.length ec, .slice da c.den.length dc, .string c.sig] /\ Below w.heap.size w V) := by rw [hV]; exact ⟨Blk.new w _ _, (Below.refl _ _).alloc (Nat.le_refl _) _⟩
 have hsz : w.heap.size < V.heap.size := G.out.1.lt
 clear hV
 refine (Z4.out V G.out.2).mono ?_
 rintro e V4 ⟨rfl, hb⟩
 have G4 : Hid (Blk V4 w.heap.size 104 #[.int .i64 c.serial, .string c.issuer, .string c.subject, .int .i64 c.frm, .int .i64 c.upto, .string c.key, .bool c.ca, .int .i64 c.pathLen, .int .i64 c.usage, .slice pa c.pol.length pc, .slice ea c.per.length ec, .slice da c.den.length dc, .string c.sig] /\ Below w.heap.size w V4) := ⟨G.out.1.below hb hsz, G.out.2.trans (hb.mono G.out.2.size)⟩
 have hsz4 : w.heap.size < V4.heap.size := Nat.lt_of_lt_of_le hsz hb.size
 clear hb G hsz
 have ca : V4.cell? ⟨w.heap.size, 10, none⟩ = some (.slice ea c.per.length ec) := G4.out.1.cell 10
 go_wp2_with fail
 clear ca
 refine (Z5.out V4 G4.out.2).mono ?_
 rintro e V5 ⟨rfl, hb⟩
 have G5 : Hid (Blk V5 w.heap.size 104 #[.int .i64 c.serial, .string c.issuer, .string c.subject, .int .i64 c.frm, .int .i64 c.upto, .string c.key, .bool c.ca, .int .i64 c.pathLen, .int .i64 c.usage, .slice pa c.pol.length pc, .slice ea c.per.length ec, .slice da c.den.length dc, .string c.sig] /\ Below w.heap.size w V5) := ⟨G4.out.1.below hb hsz4, G4.out.2.trans (hb.mono G4.out.2.size)⟩
 have hsz5 : w.heap.size < V5.heap.size := Nat.lt_of_lt_of_le hsz4 hb.size
 clear hb G4 hsz4
 have ca : V5.cell? ⟨w.heap.size, 11, none⟩ = some (.slice da c.den.length dc) := G5.out.1.cell 11
 go_wp2_with fail
 clear ca
 refine (Z6.out V5 G5.out.2).mono ?_
 rintro e V6 ⟨rfl, hb⟩
 have G6 : Hid (Blk V6 w.heap.size 104 #[.int .i64 c.serial, .string c.issuer, .string c.subject, .int .i64 c.frm, .int .i64 c.upto, .string c.key, .bool c.ca, .int .i64 c.pathLen, .int .i64 c.usage, .slice pa c.pol.length pc, .slice ea c.per.length ec, .slice da c.den.length dc, .string c.sig] /\ Below w.heap.size w V6) := ⟨G5.out.1.below hb hsz5, G5.out.2.trans (hb.mono G5.out.2.size)⟩
 have hsz6 : w.heap.size < V6.heap.size := Nat.lt_of_lt_of_le hsz5 hb.size
 clear hb G5 hsz5
 have ca : V6.cell? ⟨w.heap.size, 12, none⟩ = some (.string c.sig) := G6.out.1.cell 12
 go_wp2_with fail
 skip
 go_ret
 exact ⟨by rw [HF.out]; rfl, G6.out.2⟩
end Go.Proofs.Ytllmgjfffkhocaa
