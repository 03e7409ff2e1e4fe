/-
  Texts of the proof.
-/
import Derived.Laws.OwnMore
import Derived.Deep.RegionHeld3
import Derived.Test.YtcbjlbpkoneibaaGreatDoorSR4
set_option linter.unusedVariables false
set_option linter.unusedSimpArgs false
namespace Go.Proofs.YtcbjlbpkoneibaaGreatDoor
open Go.RowKit Der
def Out (fp : List Nat) (w w' : World) : Prop := w'.os = w.os /\ w'.tape = w.tape /\ w'.output = w.output /\ w.heap.size <= w'.heap.size /\ ∀ b, b < w.heap.size -> b ∉ fp -> w'.heap[b]? = w.heap[b]?
theorem Out.refl (fp : List Nat) (w : World) : Out fp w w := ⟨rfl, rfl, rfl, Nat.le_refl _, fun _ _ _ => rfl⟩
theorem Out.trans {fp : List Nat} {a b c : World} (h1 : Out fp a b) (h2 : Out fp b c) : Out fp a c :=
 ⟨h2.1.trans h1.1, h2.2.1.trans h1.2.1, h2.2.2.1.trans h1.2.2.1, Nat.le_trans h1.2.2.2.1 h2.2.2.2.1, fun k hk hn => (h2.2.2.2.2 k (Nat.lt_of_lt_of_le hk h1.2.2.2.1) hn).trans (h1.2.2.2.2 k hk hn)⟩
theorem Out.of_below {fp : List Nat} {a b : World} (h : zW a b) : Out fp a b := ⟨h.os, h.tape, h.output, h.size, fun k hk _ => h.block k hk⟩
theorem Out.setCell {fp : List Nat} {a b : World} (h : Out fp a b) (p : Addr) (v : Value) (hp : p.block ∈ fp) : Out fp a (b.setCell p v) := by
 have hb := (Below.refl 0 b).setCell (p := p) (Nat.zero_le _) v;exact ⟨hb.os.trans h.1, hb.tape.trans h.2.1, hb.output.trans h.2.2.1, Nat.le_trans h.2.2.2.1 hb.size, fun k hk hn => by
  have hne : k ≠ p.block := fun e => hn (by rw [e]; exact hp)
  rw [heap_setCell_other b p k v hne];exact h.2.2.2.2 k hk hn⟩
theorem Out.below {fp : List Nat} {a b : World} {B : Nat} (h : Out fp a b) (hB : ∀ x ∈ fp, B <= x) (hs : B <= a.heap.size) : Below B a b := ⟨h.1, h.2.1, h.2.2.1, h.2.2.2.1, fun k hk => h.2.2.2.2 k (Nat.lt_of_lt_of_le hk hs) fun hm => by have := hB k hm; omega⟩
end Go.Proofs.YtcbjlbpkoneibaaGreatDoor
namespace Go.Proofs.YtcbjlbpkoneibaaGreatDoor
open Go.RowKit
theorem Out.row {fp : List Nat} {a b : World} {v : Value} (h : Out fp a b) (hv : ∀ g, v.ownBlock = some g -> g ∉ fp) : ∀ {base : Nat} {e : TypeId} {size n : Nat} {xs : List Value}, a.ownsRow base e size v n xs -> b.ownsRow base e size v n xs := by
 intro base e size n xs ho;refine ⟨ho.1, ?_⟩
 rcases ho.2 with hn | ⟨g, cap, cur, rfl, hb, hgg, rest⟩
 ·exact .inl hn
 ·refine .inr ⟨g, cap, cur, rfl, hb, ?_, rest⟩
  rw [h.2.2.2.2 g (Array.getElem?_eq_some_iff.1 hgg).1 (hv g rfl)];exact hgg
structure Kd (α : Type) where
 T : TypeId
 K : Nat
 Own : World -> Nat -> Value -> α -> Prop
 At : World -> Value -> α -> Prop
 fp : Value -> List Nat
 pos : 0 < K
 size : ∀ {w : World} {b : Nat} {v : Value} {c : α}, Own w b v c -> v.cells.size = K /\ ∀ x ∈ v.cells.toList, x.oneCell' = true
 same : ∀ {w w' : World} {b : Nat} {v : Value} {c : α}, Own w b v c -> (∀ g ∈ fp v, w'.heap[g]? = w.heap[g]?) -> Own w' b v c
 lt : ∀ {w : World} {b : Nat} {v : Value} {c : α}, Own w b v c -> ∀ g ∈ fp v, b <= g /\ g < w.heap.size
 base : ∀ {w : World} {b b' : Nat} {v : Value} {c : α}, Own w b v c -> b' <= b -> Own w b' v c
 nodup : ∀ {w : World} {b : Nat} {v : Value} {c : α}, Own w b v c -> (fp v).Nodup
 own_at : ∀ {w : World} {b : Nat} {v : Value} {c : α}, Own w b v c -> At w v c
 below : ∀ {w w' : World} {v : Value} {c : α}, At w v c -> zW w w' -> At w' v c
def cellsV (vs : List Value) : List Value := vs.flatMap fun v => v.cells.toList
theorem cellsV_cons (v : Value) (vs : List Value) : cellsV (v :: vs) = v.cells.toList ++ cellsV vs := rfl
theorem cellsV_append (a b : List Value) : cellsV (a ++ b) = cellsV a ++ cellsV b := by simp [cellsV, List.flatMap_append]
theorem cellsV_at {K : Nat} : ∀ {vs : List Value}, (∀ v ∈ vs, v.cells.size = K) -> ∀ (j : Nat) (hj : j < vs.length) (i : Nat), i < K -> (cellsV vs)[j * K + i]? = vs[j].cells[i]?
 | [], _, j, hj, _, _ => absurd hj (Nat.not_lt_zero _)
 | v :: vs, h, 0, _, i, hi => by
  rw [cellsV_cons, Nat.zero_mul, Nat.zero_add, List.getElem?_append_left (by rw [Array.length_toList, h v (List.mem_cons_self ..)]; exact hi), Array.getElem?_toList];rfl
 | v :: vs, h, j + 1, hj, i, hi => by
  have hv : v.cells.toList.length = K := by rw [Array.length_toList]; exact h v (List.mem_cons_self ..)
  rw [cellsV_cons, List.getElem?_append_right (by rw [hv, Nat.succ_mul]; omega), hv, show (j + 1) * K + i - K = j * K + i by rw [Nat.succ_mul]; omega, cellsV_at (fun x hx => h x (List.mem_cons_of_mem _ hx)) j (by simpa using hj) i hi];rfl
def setMany : List Value -> Nat -> List Value -> List Value
 | xs, _, [] => xs
 | xs, i, u :: us => setMany (xs.set i u) (i + 1) us
def putCells : World -> Nat -> Nat -> List Value -> World
 | w, _, _, [] => w
 | w, g, i, u :: us => putCells (w.setCell ⟨g, i, none⟩ u) g (i + 1) us
theorem setMany_append (a : List Value) : ∀ (us b : List Value) (i : Nat), setMany (a ++ b) (a.length + i) us = a ++ setMany b i us
 | [], b, i => rfl
 | u :: us, b, i => by
  show setMany ((a ++ b).set (a.length + i) u) (a.length + i + 1) us = a ++ setMany (b.set i u) (i + 1) us;rw [List.set_append_right (a.length + i) u (by omega), Nat.add_sub_cancel_left, Nat.add_assoc, setMany_append a us (b.set i u) (i + 1)]
theorem setMany_head : ∀ (us a b : List Value), us.length = a.length -> setMany (a ++ b) 0 us = us ++ b
 | [], [], b, _ => rfl
 | [], _ :: _, _, h => by simp at h
 | _ :: _, [], _, h => by simp at h
 | u :: us, x :: a, b, h => by
  show setMany (u :: (a ++ b)) 1 us = u :: (us ++ b);rw [<- setMany_head us a b (by simpa using h)];exact setMany_append [u] us (a ++ b) 0
theorem putCells_out : ∀ (us : List Value) (w : World) (g i : Nat), Out [g] w (putCells w g i us)
 | [], w, g, i => Out.refl _ _
 | u :: us, w, g, i => ((Out.refl [g] w).setCell ⟨g, i, none⟩ u (by simp)).trans (putCells_out us _ g (i + 1))
def OwnS {α : Type} (k : Kd α) (w : World) (base : Nat) (v : Value) (l : List α) (fp : List Nat) : Prop :=
 ∃ vs : List Value, vs.length = l.length /\ w.ownsRow base k.T k.K v l.length (cellsV vs) /\ (∀ j (h1 : j < vs.length) (h2 : j < l.length), k.Own w base vs[j] l[j]) /\ fp = v.ownBlock.toList ++ vs.flatMap k.fp /\ fp.Nodup
theorem flat_mem {k : Value -> List Nat} {vs : List Value} {b : Nat} (h : b ∈ vs.flatMap k) : ∃ j, ∃ hj : j < vs.length, b ∈ k vs[j] := by
 obtain ⟨v, hv, hb⟩ := List.mem_flatMap.1 h;obtain ⟨j, hj, rfl⟩ := List.getElem_of_mem hv;exact ⟨j, hj, hb⟩
theorem mem_flat {k : Value -> List Nat} {vs : List Value} {j b : Nat} (hj : j < vs.length) (hb : b ∈ k vs[j]) : b ∈ vs.flatMap k := List.mem_flatMap.2 ⟨_, List.getElem_mem hj, hb⟩
theorem OwnS.lt {α : Type} {k : Kd α} {w : World} {base : Nat} {v : Value} {l : List α} {fp : List Nat} (h : OwnS k w base v l fp) : ∀ b ∈ fp, base <= b /\ b < w.heap.size := by
 obtain ⟨vs, hl, hr, he, rfl, hn⟩ := h;intro b hb
 rcases List.mem_append.1 hb with hb | hb
 ·exact hr.lt b (Option.mem_toList.1 hb)
 ·obtain ⟨j, hj, hbj⟩ := flat_mem hb
  exact k.lt (he j hj (by omega)) b hbj
theorem row_same {w w' : World} {base : Nat} {e : TypeId} {size : Nat} {v : Value} {n : Nat} {xs : List Value} (h : w.ownsRow base e size v n xs) (hs : ∀ g, v.ownBlock = some g -> w'.heap[g]? = w.heap[g]?) : w'.ownsRow base e size v n xs := by
 obtain ⟨h1, h2⟩ := h;refine ⟨h1, ?_⟩
 rcases h2 with h2 | ⟨g, cap, cur, hv, hbg, hg, r⟩
 ·exact .inl h2
 ·exact .inr ⟨g, cap, cur, hv, hbg, (hs g (by rw [hv]; rfl)).trans hg, r⟩
theorem OwnS.same {α : Type} {k : Kd α} {w w' : World} {base : Nat} {v : Value} {l : List α} {fp : List Nat} (h : OwnS k w base v l fp) (hs : ∀ b ∈ fp, w'.heap[b]? = w.heap[b]?) : OwnS k w' base v l fp := by
 obtain ⟨vs, hl, hr, he, rfl, hn⟩ := h;refine ⟨vs, hl, row_same hr (fun g hg => hs g (List.mem_append_left _ (Option.mem_toList.2 hg))), fun j h1 h2 => k.same (he j h1 h2) fun g hg => hs g (List.mem_append_right _ (mem_flat h1 hg)), rfl, hn⟩
theorem OwnS.base {α : Type} {k : Kd α} {w : World} {b b' : Nat} {v : Value} {l : List α} {fp : List Nat} (h : OwnS k w b v l fp) (hb : b' <= b) : OwnS k w b' v l fp := by
 obtain ⟨vs, hl, hr, he, hf, hn⟩ := h;refine ⟨vs, hl, ⟨hr.1, ?_⟩, fun j h1 h2 => k.base (he j h1 h2) hb, hf, hn⟩
 rcases hr.2 with h2 | ⟨g, cap, cur, hv, hbg, r⟩
 ·exact .inl h2
 ·exact .inr ⟨g, cap, cur, hv, Nat.le_trans hb hbg, r⟩
theorem OwnS.sizes {α : Type} {k : Kd α} {w : World} {base : Nat} {l : List α} {vs : List Value} (hl : vs.length = l.length) (he : ∀ j (h1 : j < vs.length) (h2 : j < l.length), k.Own w base vs[j] l[j]) : ∀ v ∈ vs, v.cells.size = k.K := fun v hv => by
 obtain ⟨j, hj, rfl⟩ := List.getElem_of_mem hv;exact (k.size (he j hj (by omega))).1
theorem OwnS.made {α : Type} (k : Kd α) (w : World) (base : Nat) (hb : base <= w.heap.size) : OwnS k (w.alloc (.cells #[] k.T)) base (zS (some ⟨w.heap.size, 0, none⟩) 0 0) [] [w.heap.size] :=
 ⟨[], rfl, World.ownsRow_made w #[] 0 hb (Nat.zero_le _) (by simp), fun j h => absurd h (Nat.not_lt_zero _), rfl, by simp⟩
theorem OwnS.shape {α : Type} {k : Kd α} {w : World} {base : Nat} {v : Value} {l : List α} {fp : List Nat} (h : OwnS k w base v l fp) : ∃ ao cap, v = zS ao l.length cap /\ (0 < l.length -> ∃ g, ao = some ⟨g, 0, none⟩) /\ l.length <= cap /\ cap <= maxLen := by
 obtain ⟨vs, hl, hr, he, hf, hn⟩ := h
 rcases hr.2 with ⟨h1, h0⟩ | ⟨g, cap, cur, hv, _, _, hn, hm, _⟩
 ·exact ⟨none, 0, by rw [h1, h0], fun h => by omega, by omega, Nat.zero_le _⟩
 ·exact ⟨some ⟨g, 0, none⟩, cap, hv, fun _ => ⟨g, rfl⟩, hn, hm⟩
theorem OwnS.snoc {α : Type} {k : Kd α} {w w' : World} {base g cap : Nat} {v : Value} {l : List α} {fp : List Nat} {vs : List Value} {u : Value} {c : α} (hl : vs.length = l.length) (hr : w.ownsRow base k.T k.K v l.length (cellsV vs)) (he : ∀ j (h1 : j < vs.length) (h2 : j < l.length), k.Own w base vs[j] l[j]) (hn : (v.ownBlock.toList ++ vs.flatMap k.fp).Nodup)
  (hu : k.Own w base u c) (hd : ∀ b ∈ k.fp u, b ∉ v.ownBlock.toList ++ vs.flatMap k.fp) (hown : w'.ownsRow base k.T k.K (zS (some ⟨g, 0, none⟩) (l.length + 1) cap) (l.length + 1) (cellsV vs ++ u.cells.toList)) (hgrow : w.grownBy w' v.ownBlock) (hg : v.ownBlock = some g ∨ g = w.heap.size) :
  ∃ fp', OwnS k w' base (zS (some ⟨g, 0, none⟩) (l ++ [c]).length cap) (l ++ [c]) fp' /\ ∀ b ∈ fp', b ∈ v.ownBlock.toList ++ vs.flatMap k.fp ∨ b ∈ k.fp u ∨ b = w.heap.size := by
 have old : ∀ y ∈ vs.flatMap k.fp, y < w.heap.size := fun y hy => by
  obtain ⟨j, hj, hyj⟩ := flat_mem hy;exact (k.lt (he j hj (by omega)) y hyj).2
 have new : ∀ y ∈ k.fp u, y < w.heap.size := fun y hy => (k.lt hu y hy).2
 have hn2 := (List.nodup_append.1 hn);have apart : ∀ y ∈ vs.flatMap k.fp, v.ownBlock ≠ some y := fun y hy e => hn2.2.2 y (Option.mem_toList.2 e) y hy rfl
 have apart2 : ∀ y ∈ k.fp u, v.ownBlock ≠ some y := fun y hy e => hd y hy (List.mem_append_left _ (Option.mem_toList.2 e))
 refine ⟨g :: (vs ++ [u]).flatMap k.fp, ⟨vs ++ [u], by simp [hl], ?_, ?_, rfl, ?_⟩, ?_⟩
 ·rw [cellsV_append, List.length_append, List.length_singleton]
  show w'.ownsRow base k.T k.K _ _ (cellsV vs ++ (u.cells.toList ++ []));rw [List.append_nil];exact hown
 ·intro j h1 h2
  by_cases hj : j < vs.length
  ·have e1 : (vs ++ [u])[j] = vs[j] := List.getElem_append_left hj
   have e2 : (l ++ [c])[j] = l[j]'(by omega) := List.getElem_append_left (by omega);rw [e1, e2];refine k.same (he j hj (by omega)) fun y hy => ?_
   have hy2 := mem_flat (k := k.fp) hj hy;exact hgrow.block y (old y hy2) (fun e => apart y hy2 e.symm)
  ·have hj2 : j = vs.length := by simp at h1; omega
   subst hj2;have e1 : (vs ++ [u])[vs.length] = u := by simp
   have e2 : (l ++ [c])[vs.length]'h2 = c := by simp [hl]
   rw [e1, e2];exact k.same hu fun y hy => hgrow.block y (new y hy) (fun e => apart2 y hy e.symm)
 ·rw [List.nodup_cons, List.flatMap_append]
  refine ⟨fun hm => ?_, nodup_app hn2.2.1 ?_ fun y hy hy2 => ?_⟩
  ·rcases List.mem_append.1 hm with hm | hm
   ·rcases hg with hg | hg
    ·exact apart g hm hg
    ·have := old g hm; omega
   ·have hm' : g ∈ k.fp u := by simpa using hm
    rcases hg with hg | hg
    ·exact apart2 g hm' hg
    ·have := new g hm'; omega
  ·simpa using k.nodup hu
  ·have hy' : y ∈ k.fp u := by simpa using hy2
   exact hd y hy' (List.mem_append_right _ hy)
 ·intro b hb
  rcases List.mem_cons.1 hb with rfl | hb
  ·rcases hg with hg | hg
   ·exact .inl (List.mem_append_left _ (Option.mem_toList.2 hg))
   ·exact .inr (.inr hg)
  ·rw [List.flatMap_append] at hb
   rcases List.mem_append.1 hb with hb | hb
   ·exact .inl (List.mem_append_right _ hb)
   ·exact .inr (.inl (by simpa using hb))
def cellsR (l : List (Int × Int)) : List Value := l.flatMap fun p => [zI p.1, zI p.2]
theorem cellsR_cons (x : Int × Int) (l : List (Int × Int)) : cellsR (x :: l) = zI x.1 :: zI x.2 :: cellsR l := rfl
theorem cellsR_len : ∀ l : List (Int × Int), (cellsR l).length = l.length * 2
 | [] => rfl
 | x :: l => by
  rw [cellsR_cons];simp only [List.length_cons, cellsR_len l];omega
theorem cellsR_append (a b : List (Int × Int)) : cellsR (a ++ b) = cellsR a ++ cellsR b := by simp [cellsR, List.flatMap_append]
theorem cellsR_at : ∀ (l : List (Int × Int)) (j : Nat), j < l.length -> (cellsR l)[j * 2]? = some (zI (l.getD j (0, 0)).1) /\ (cellsR l)[j * 2 + 1]? = some (zI (l.getD j (0, 0)).2)
 | [], j, h => absurd h (Nat.not_lt_zero _)
 | x :: l, 0, _ => ⟨rfl, rfl⟩
 | x :: l, j + 1, h => by
  have ih := cellsR_at l j (by simpa using h);rw [cellsR_cons, show (j + 1) * 2 = j * 2 + 1 + 1 by omega];simpa using ih
def RevAt (w : World) (v : Value) (l : List (Int × Int)) : Prop := ∃ ao cap, v = zS ao l.length cap /\ ∀ j, j < l.length -> ∃ g, ao = some ⟨g, 0, none⟩ /\ g < w.heap.size /\ w.cell? ⟨g, j * 2, none⟩ = some (zI (l.getD j (0, 0)).1) /\ w.cell? ⟨g, j * 2 + 1, none⟩ = some (zI (l.getD j (0, 0)).2)
theorem RevAt.below {w w' : World} {v : Value} {l : List (Int × Int)} (h : RevAt w v l) (hb : zW w w') : RevAt w' v l := by
 obtain ⟨ao, cap, hv, h⟩ := h;refine ⟨ao, cap, hv, fun j hj => ?_⟩;obtain ⟨g, hg, hlt, h1, h2⟩ := h j hj;exact ⟨g, hg, Nat.lt_of_lt_of_le hlt hb.size, (hb.cell (p := ⟨g, j * 2, none⟩) hlt).trans h1, (hb.cell (p := ⟨g, j * 2 + 1, none⟩) hlt).trans h2⟩
def OwnR (w : World) (base : Nat) (v : Value) (l : List (Int × Int)) : Prop := w.ownsRow base 73 2 v l.length (cellsR l)
theorem OwnR.cell {w : World} {base g cap : Nat} {l : List (Int × Int)} (h : OwnR w base (zS (some ⟨g, 0, none⟩) l.length cap) l) {j : Nat} (hj : j < l.length) : w.cell? ⟨g, j * 2, none⟩ = some (zI (l.getD j (0, 0)).1) /\ w.cell? ⟨g, j * 2 + 1, none⟩ = some (zI (l.getD j (0, 0)).2) := by
 rw [World.ownsRow.cellAt h (j * 2) (by omega), World.ownsRow.cellAt h (j * 2 + 1) (by omega)];exact cellsR_at l j hj
theorem OwnR.at {w : World} {base : Nat} {v : Value} {l : List (Int × Int)} (h : OwnR w base v l) : RevAt w v l := by
 have hc := fun g (hg : v.ownBlock = some g) => (World.ownsRow.lt h g hg).2
 have h' := h;obtain ⟨h1, h2⟩ := h
 rcases h2 with ⟨rfl, h0⟩ | ⟨g, cap, cur, rfl, hbg, hg, r⟩
 ·exact ⟨none, 0, by rw [h0], fun j hj => by omega⟩
 ·exact ⟨some ⟨g, 0, none⟩, cap, rfl, fun j hj => ⟨g, rfl, hc g rfl, h'.cell hj⟩⟩
theorem OwnR.stays {w w' : World} {base : Nat} {v : Value} {l : List (Int × Int)} (h : OwnR w base v l) (hb : zW w w') : OwnR w' base v l := by
 obtain ⟨h1, h2⟩ := h;refine ⟨h1, ?_⟩
 rcases h2 with h2 | ⟨g, cap, cur, hv, hbg, hg, r⟩
 ·exact .inl h2
 ·have hlt : g < w.heap.size := by
   rcases Nat.lt_or_ge g w.heap.size with h | h
   ·exact h
   ·rw [Array.getElem?_eq_none h] at hg; cases hg
  exact .inr ⟨g, cap, cur, hv, hbg, by rw [hb.block g hlt]; exact hg, r⟩
theorem OwnR.block {w w' : World} {b : Nat} {v : Value} {l : List (Int × Int)} (h : OwnR w b v l) (hh : ∀ g, b <= g -> w'.heap[g]? = w.heap[g]?) : OwnR w' b v l := by
 obtain ⟨h1, h2⟩ := h;refine ⟨h1, ?_⟩
 rcases h2 with h2 | ⟨g, cap, cur, hv, hbg, hg, r⟩
 ·exact .inl h2
 ·exact .inr ⟨g, cap, cur, hv, hbg, (hh g hbg).trans hg, r⟩
theorem OwnR.base {w : World} {b b' : Nat} {v : Value} {l : List (Int × Int)} (h : OwnR w b v l) (hb : b' <= b) : OwnR w b' v l := by
 obtain ⟨h1, h2⟩ := h;refine ⟨h1, ?_⟩
 rcases h2 with h2 | ⟨g, cap, cur, hv, hbg, r⟩
 ·exact .inl h2
 ·exact .inr ⟨g, cap, cur, hv, Nat.le_trans hb hbg, r⟩
theorem OwnR.shape {w : World} {base : Nat} {v : Value} {l : List (Int × Int)} (h : OwnR w base v l) : ∃ ao cap, v = zS ao l.length cap /\ (0 < l.length -> ∃ g, ao = some ⟨g, 0, none⟩) /\ l.length <= cap /\ cap <= maxLen := by
 rcases h.2 with ⟨h1, h0⟩ | ⟨g, cap, cur, hv, _, _, hn, hm, _⟩
 ·exact ⟨none, 0, by rw [h1, h0], fun h => by omega, by omega, Nat.zero_le _⟩
 ·exact ⟨some ⟨g, 0, none⟩, cap, hv, fun _ => ⟨g, rfl⟩, hn, hm⟩
def WdR (l : List (Int × Int)) : Prop := ∀ x ∈ l, (-9223372036854775808 <= x.1 /\ x.1 <= 9223372036854775807) /\ (-9223372036854775808 <= x.2 /\ x.2 <= 9223372036854775807)
theorem getR_mem {l : List (Int × Int)} {k : Nat} (h : k < l.length) : l.getD k (0, 0) ∈ l := by
 rw [List.getD_eq_getElem?_getD, List.getElem?_eq_getElem h];exact List.getElem_mem _
theorem infoRev : (Tryz.prog.info? 73).map (fun i => (i.zero, i.size, i.bytes)) = some (some (.agg #[zI 0, zI 0]), 2, 16) := by kernel_rfl
end Go.Proofs.YtcbjlbpkoneibaaGreatDoor
