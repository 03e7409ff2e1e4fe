/-
  Texts of the proof.
-/
import Derived.OwnWalk
import Derived.Laws.OwnMore
import Derived.Deep.RegionHeld3
import Derived.Test.YtcbjlbpkoneibaaGreatDoorSR1
set_option linter.unusedVariables false
set_option linter.unusedSimpArgs false
namespace Go.Proofs.YtcbjlbpkoneibaaGreatDoor
open Go.RowKit Der
def szS (n : Nat) (ks : List (It n)) : Nat := ks.length + (ks.map (szI n)).sum
theorem take_sum {n : Nat} {ks : List (It n)} {k : Nat} (h : k < ks.length) : ((ks.take (k + 1)).map (szI n)).sum = ((ks.take k).map (szI n)).sum + szI n ks[k] := by
 rw [List.take_add_one, List.map_append, List.sum_append];simp [h]
theorem take_sum_le {n : Nat} (ks : List (It n)) (k : Nat) : ((ks.take k).map (szI n)).sum <= (ks.map (szI n)).sum := by
 have h := congrArg (fun l => (l.map (szI n)).sum) (List.take_append_drop k ks);simp only [List.map_append, List.sum_append] at h;omega
theorem one_laid (w : World) (a b c : Value) (t : TypeId) : ∀ W, W = w.alloc (Obj.cells #[a, b, c] t) ->
  zW w W /\ w.heap.size < W.heap.size /\ (W.cell? ⟨w.heap.size, 0, none⟩ = some a /\ W.cell? ⟨w.heap.size, 1, none⟩ = some b /\ W.cell? ⟨w.heap.size, 2, none⟩ = some c) := by
 rintro W rfl;have e : (w.alloc (Obj.cells #[a, b, c] t)).heap.size = w.heap.size + 1 := Array.size_push _;have h0 := heap_alloc_new w (Obj.cells #[a, b, c] t);refine ⟨(Below.refl _ _).alloc (Nat.le_refl _) _, by omega, ?_⟩;simp only [World.cell?, h0];exact ⟨rfl, rfl, rfl⟩
end Go.Proofs.YtcbjlbpkoneibaaGreatDoor
namespace Go.Proofs.YtcbjlbpkoneibaaGreatDoor
open Go.RowKit Der
def RowV (w : World) (b n : Nat) (f : Nat -> Value) : Prop := ∃ t, w.heap[b]? = some (.cells ((List.range n).map f).toArray t (0, 0))
theorem RowV.lt {w : World} {b n : Nat} {f : Nat -> Value} (h : RowV w b n f) : b < w.heap.size := by
 obtain ⟨t, h⟩ := h
 rcases Nat.lt_or_ge b w.heap.size with h' | h'
 ·exact h'
 ·rw [Array.getElem?_eq_none h'] at h; cases h
theorem RowV.cell {w : World} {b n : Nat} {f : Nat -> Value} (h : RowV w b n f) {j : Nat} (hj : j < n) : w.cell? ⟨b, j, none⟩ = some (f j) := by
 obtain ⟨t, h⟩ := h;rw [cell_of_row w b j _ t _ h];simp [hj]
theorem RowV.same {w w' : World} {b n : Nat} {f : Nat -> Value} (h : RowV w b n f) (e : w'.heap[b]? = w.heap[b]?) : RowV w' b n f := by
 obtain ⟨t, h⟩ := h;exact ⟨t, e.trans h⟩
def OwnK (w : World) (base : Nat) : (n : Nat) -> Value -> List (It n) -> List Nat -> Prop
 | 0, v, _, fp => (∃ ao cap, v = .slice ao 0 cap) /\ fp = []
 | n + 1, v, ks, fp => ∃ ao cap, v = .slice ao ks.length cap /\ (ks.length = 0 -> fp = []) /\ (0 < ks.length -> ∃ (g o c : Nat) (f : Nat -> Value) (fps : List (List Nat)), ao = some ⟨g, o, none⟩ /\ base <= g /\ RowV w g c f /\ (o + 3 * ks.length <= c /\ ks.length <= cap) /\ fp = g :: fps.flatten /\ fp.Nodup /\ fps.length = ks.length /\
   ∀ j (hj : j < ks.length) (hj2 : j < fps.length), f (o + j * 3) = zI (It.tag ks[j]) /\ f (o + j * 3 + 1) = zG ⟨(It.text ks[j]).toArray⟩ /\ OwnK w base n (f (o + j * 3 + 2)) (It.kids ks[j]) fps[j])
theorem OwnK.same {w w' : World} {base : Nat} : ∀ {n : Nat} {v : Value} {ks : List (It n)} {fp : List Nat}, OwnK w base n v ks fp -> (∀ b ∈ fp, w'.heap[b]? = w.heap[b]?) -> OwnK w' base n v ks fp
 | 0, _, _, _, h, _ => h
 | n + 1, v, ks, fp, ⟨ao, cap, hv, h0, h⟩, he => ⟨ao, cap, hv, h0, fun hp => by
   obtain ⟨g, o, c, f, fps, hao, hg, hr, hoc, hfp, hnd, hl, hk⟩ := h hp;refine ⟨g, o, c, f, fps, hao, hg, hr.same (he g (by rw [hfp]; simp)), hoc, hfp, hnd, hl, fun j hj hj2 => ?_⟩;obtain ⟨h1, h2, h3⟩ := hk j hj hj2;exact ⟨h1, h2, OwnK.same h3 fun b hb => he b (by rw [hfp]; exact List.mem_cons_of_mem _ (List.mem_flatten.2 ⟨fps[j], List.getElem_mem hj2, hb⟩))⟩⟩
theorem OwnK.lt {w : World} {base : Nat} : ∀ {n : Nat} {v : Value} {ks : List (It n)} {fp : List Nat}, OwnK w base n v ks fp -> ∀ b ∈ fp, base <= b /\ b < w.heap.size
 | 0, _, _, _, ⟨_, h⟩, b, hb => by rw [h] at hb; cases hb
 | n + 1, v, ks, fp, ⟨ao, cap, hv, h0, h⟩, b, hb => by
   by_cases hp : 0 < ks.length
   ·obtain ⟨g, o, c, f, fps, hao, hg, hr, hoc, hfp, hnd, hl, hk⟩ := h hp
    rw [hfp] at hb
    rcases List.mem_cons.1 hb with rfl | hb
    ·exact ⟨hg, hr.lt⟩
    ·obtain ⟨l, hl1, hl2⟩ := List.mem_flatten.1 hb
     obtain ⟨j, hj, rfl⟩ := List.getElem_of_mem hl1;exact OwnK.lt (hk j (by omega) hj).2.2 b hl2
   ·rw [h0 (by omega)] at hb; cases hb
theorem OwnK.below {w w' : World} {base B : Nat} {n : Nat} {v : Value} {ks : List (It n)} {fp : List Nat} (h : OwnK w base n v ks fp) (hb : Below B w w') (hB : ∀ b ∈ fp, b < B) : OwnK w' base n v ks fp :=
 h.same fun b hm => hb.block b (hB b hm)
theorem OwnK.at {w : World} {base : Nat} : ∀ {n : Nat} {v : Value} {ks : List (It n)} {fp : List Nat}, OwnK w base n v ks fp -> KidsAt w (ItAt w n) v ks
 | 0, v, ks, fp, ⟨⟨ao, cap, hv⟩, _⟩ => by
   have hk : ks = [] := by
    cases ks with
    | nil => rfl
    | cons x _ => exact (x : Empty).elim
   subst hk;exact ⟨ao, cap, hv, fun h => absurd h (Nat.lt_irrefl _)⟩
 | n + 1, v, ks, fp, ⟨ao, cap, hv, h0, h⟩ => ⟨ao, cap, hv, fun hp => by
   obtain ⟨g, o, c, f, fps, hao, hg, hr, hoc, hfp, hnd, hl, hk⟩ := h hp;refine ⟨g, o, hao, hr.lt, fun j hj => ?_⟩;obtain ⟨h1, h2, h3⟩ := hk j hj (by omega);exact ⟨_, _, _, hr.cell (by omega), hr.cell (by omega), hr.cell (by omega), f (o + j * 3 + 2), by rw [h1, h2], OwnK.at h3⟩⟩
def ToIt (w : World) (n : Nat) (x : It (n + 1)) (e : Ending) (w' : World) : Prop := ∃ k fp, e = .returned (.agg #[zI (It.tag x), zG ⟨(It.text x).toArray⟩, k]) /\ OwnK w' w.heap.size n k (It.kids x) fp /\ zW w w'
theorem OwnK.base {w : World} {B base : Nat} (hB : B <= base) : ∀ {n : Nat} {v : Value} {ks : List (It n)} {fp : List Nat}, OwnK w base n v ks fp -> OwnK w B n v ks fp
 | 0, _, _, _, h => h
 | n + 1, v, ks, fp, ⟨ao, cap, hv, h0, h⟩ => ⟨ao, cap, hv, h0, fun hp => by
   obtain ⟨g, o, c, f, fps, hao, hg, hr, hoc, hfp, hnd, hl, hk⟩ := h hp;refine ⟨g, o, c, f, fps, hao, Nat.le_trans hB hg, hr, hoc, hfp, hnd, hl, fun j hj hj2 => ?_⟩;obtain ⟨h1, h2, h3⟩ := hk j hj hj2;exact ⟨h1, h2, OwnK.base hB h3⟩⟩
theorem OwnK.shape {w : World} {base n : Nat} {v : Value} {ks : List (It n)} {fp : List Nat} (h : OwnK w base n v ks fp) : ∃ ao cap, v = zS ao ks.length cap := by
 obtain ⟨ao, cap, hv, _⟩ := h.at
 exact ⟨ao, cap, hv⟩
theorem cell_in {w : World} {b : Nat} {x y z : Value} {t : TypeId} (h : w.heap[b]? = some (.cells #[x, y, z] t (0, 0))) : (w.cell? ⟨b, 0, none⟩ = some x /\ w.cell? ⟨b, 1, none⟩ = some y /\ w.cell? ⟨b, 2, none⟩ = some z) /\ ∀ j, w.frozen? ⟨b, j, none⟩ = false := by
 refine ⟨?_, fun j => by simp [World.frozen?, h]⟩;simp only [World.cell?, h];exact ⟨rfl, rfl, rfl⟩
theorem infoItem : (Tryz.prog.info? 50).map (fun i => (i.zero, i.size, i.bytes)) = some (some (.agg #[zI 0, zG ⟨#[]⟩, zZ]), 3, 48) := by kernel_rfl
theorem infoItem_parts : ∃ i, Tryz.prog.info? 50 = some i /\ i.zero = some (.agg #[zI 0, zG ⟨#[]⟩, zZ]) /\ i.size = 3 /\ i.bytes = 48 := by
 cases h : Tryz.prog.info? 50 with
 | none => have := infoItem; rw [h] at this; cases this
 | some i =>
  have := infoItem;rw [h] at this;simp only [Option.map_some, Option.some.injEq, Prod.mk.injEq] at this;exact ⟨i, rfl, this.1, this.2.1, this.2.2⟩
theorem rowV_of {w : World} {g n : Nat} {cur : Array Value} {t : TypeId} (h : w.heap[g]? = some (.cells cur t (0, 0))) (hn : cur.size = n) : RowV w g n (fun j => cur.getD j (zI 0)) := by
 refine ⟨t, ?_⟩;rw [h]
 congr 2
 apply Array.ext';apply List.ext_getElem?;intro i;simp only [List.getElem?_map];by_cases hi : i < n
 ·rw [List.getElem?_range hi]
  simp [Array.getD, hn, hi]
 ·have e : (List.range n)[i]? = none := by simp; omega
  rw [e];simp;omega
theorem OwnK.nodup {w : World} {base : Nat} : ∀ {n : Nat} {v : Value} {ks : List (It n)} {fp : List Nat}, OwnK w base n v ks fp -> fp.Nodup
 | 0, _, _, _, ⟨_, h⟩ => by rw [h]; exact List.nodup_nil
 | n + 1, v, ks, fp, ⟨ao, cap, hv, h0, h⟩ => by
   by_cases hp : 0 < ks.length
   ·obtain ⟨g, o, c, f, fps, hao, hg, hr, hoc, hfp, hnd, hl, hk⟩ := h hp
    exact hnd
   ·rw [h0 (by omega)]; exact List.nodup_nil
theorem szS_kid {n : Nat} {ks : List (It n)} {b : Nat} (h : szS n ks <= b) : ks.length <= b /\ ∀ y ∈ ks, szI n y <= b := by
 unfold szS at h;exact ⟨by omega, fun y hy => by have := sum_mem (ks.map (szI n)) (szI n y) (List.mem_map.2 ⟨y, hy, rfl⟩); omega⟩
end Go.Proofs.YtcbjlbpkoneibaaGreatDoor
