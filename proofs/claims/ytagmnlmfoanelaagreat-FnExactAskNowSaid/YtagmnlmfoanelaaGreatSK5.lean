/-
  Texts of the proof.
-/
import Derived.Deep.RegionHeld3
import Derived.Laws.StructEq
import Derived.Laws.Rows
import Derived.OwnWalk
import Derived.Laws.OwnMore
import Derived.Test.YtagmnlmfoanelaaGreatSK4
namespace Go.Proofs.YtagmnlmfoanelaaGreat
open Go.RowKit Der
def KidsAt {α : Type} (w : World) (P : Value -> α -> Prop) (v : Value) (ks : List α) : Prop :=
 ∃ ao cap, v = .slice ao ks.length cap /\ (0 < ks.length -> ∃ g o, ao = some ⟨g, o, none⟩ /\ g < w.heap.size /\ ∀ j (hj : j < ks.length), ∃ t s k, w.cell? ⟨g, o + j * 3, none⟩ = some t /\ w.cell? ⟨g, o + j * 3 + 1, none⟩ = some s /\ w.cell? ⟨g, o + j * 3 + 2, none⟩ = some k /\ P (.agg #[t, s, k]) ks[j])
def ItAt (w : World) : (n : Nat) -> Value -> It n -> Prop
 | 0, _, _ => False
 | n + 1, v, x => ∃ k, v = .agg #[.int .i64 (It.tag x), .string ⟨(It.text x).toArray⟩, k] /\ KidsAt w (ItAt w n) k (It.kids x)
theorem KidsAt.mono {α : Type} {w w' : World} {P Q : Value -> α -> Prop} {v : Value} {ks : List α} (h : KidsAt w P v ks) (hb : Below w.heap.size w w') (hPQ : ∀ u x, P u x -> Q u x) : KidsAt w' Q v ks := by
 obtain ⟨ao, cap, rfl, h⟩ := h
 refine ⟨ao, cap, rfl, fun hp => ?_⟩
 obtain ⟨g, o, rfl, hg, hc⟩ := h hp
 refine ⟨g, o, rfl, Nat.lt_of_lt_of_le hg hb.size, fun j hj => ?_⟩
 obtain ⟨t, s, k, c0, c1, c2, hP⟩ := hc j hj
 exact ⟨t, s, k, (hb.cell (p := ⟨g, o + j * 3, none⟩) hg).trans c0, (hb.cell (p := ⟨g, o + j * 3 + 1, none⟩) hg).trans c1, (hb.cell (p := ⟨g, o + j * 3 + 2, none⟩) hg).trans c2, hPQ _ _ hP⟩
theorem ItAt.below {w w' : World} (hb : Below w.heap.size w w') : ∀ {n : Nat} {v : Value} {x : It n}, ItAt w n v x -> ItAt w' n v x
 | 0, _, _, h => h.elim
 | _ + 1, _, _, ⟨k, hv, hk⟩ => ⟨k, hv, hk.mono hb fun _ _ h => ItAt.below hb h⟩
def szI : (n : Nat) -> It n -> Nat
 | 0, _ => 0
 | n + 1, x => (It.text x).length + (It.kids x).length + ((It.kids x).map (szI n)).sum
theorem sum_mem : ∀ (l : List Nat) (a : Nat), a ∈ l -> a <= l.sum
 | b :: l, a, h => by
  rw [List.sum_cons]
  rcases List.mem_cons.1 h with rfl | h
  ·omega
  ·have := sum_mem l a h
   omega
theorem szI_kid {n : Nat} {t : Int} {s : List UInt8} {ks : List (It n)} {b : Nat} (h : szI (n + 1) (It.mk t s ks) <= b) : s.length <= b /\ ks.length <= b /\ ∀ y ∈ ks, szI n y <= b := by
 change s.length + ks.length + (ks.map (szI n)).sum <= b at h
 refine ⟨by omega, by omega, fun y hy => ?_⟩
 have := sum_mem (ks.map (szI n)) (szI n y) (List.mem_map.2 ⟨y, hy, rfl⟩)
 omega
theorem KidsAt.get {α : Type} {w : World} {P : Value -> α -> Prop} {ax : Option Addr} {l cx : Nat} {ks : List α} (h : KidsAt w P (.slice ax l cx) ks) {j : Nat} (hj : j < ks.length) :
  ∃ g o t s k, ax = some ⟨g, o, none⟩ /\ g < w.heap.size /\ (w.cell? ⟨g, o + j * 3, none⟩ = some t /\ w.cell? ⟨g, o + j * 3 + 1, none⟩ = some s /\ w.cell? ⟨g, o + j * 3 + 2, none⟩ = some k) /\ P (.agg #[t, s, k]) ks[j] := by
 obtain ⟨ao, cap, hv, h⟩ := h
 obtain ⟨g, o, hao, hg, hc⟩ := h (by omega)
 obtain ⟨t, s, k, c0, c1, c2, hP⟩ := hc j hj
 injection hv with hv1
 exact ⟨g, o, t, s, k, hv1.trans hao, hg, ⟨c0, c1, c2⟩, hP⟩
def Cells3 (w : World) (g o : Nat) (t s k : Value) : Prop := w.cell? ⟨g, o, none⟩ = some t /\ w.cell? ⟨g, o + 1, none⟩ = some s /\ w.cell? ⟨g, o + 2, none⟩ = some k
theorem Cells3.below {w w' : World} {B g o : Nat} {t s k : Value} (h : Cells3 w g o t s k) (hg : g < B) (hb : Below B w w') : Cells3 w' g o t s k :=
 ⟨(hb.cell (p := ⟨g, o, none⟩) hg).trans h.1, (hb.cell (p := ⟨g, o + 1, none⟩) hg).trans h.2.1, (hb.cell (p := ⟨g, o + 2, none⟩) hg).trans h.2.2⟩
end Go.Proofs.YtagmnlmfoanelaaGreat
namespace Go.Proofs.YtagmnlmfoanelaaGreat
open Go.RowKit Der
set_option linter.unusedVariables false
set_option linter.unusedSimpArgs false
def szS (n : Nat) (ks : List (It n)) : Nat := ks.length + (ks.map (szI n)).sum
theorem take_sum {n : Nat} {ks : List (It n)} {k : Nat} (h : k < ks.length) : ((ks.take (k + 1)).map (szI n)).sum = ((ks.take k).map (szI n)).sum + szI n ks[k] := by
 rw [List.take_add_one, List.map_append, List.sum_append]
 simp [h]
theorem take_sum_le {n : Nat} (ks : List (It n)) (k : Nat) : ((ks.take k).map (szI n)).sum <= (ks.map (szI n)).sum := by
 have h := congrArg (fun l => (l.map (szI n)).sum) (List.take_append_drop k ks)
 simp only [List.map_append, List.sum_append] at h
 omega
theorem one_laid (w : World) (a b c : Value) (t : TypeId) : ∀ W, W = w.alloc (Obj.cells #[a, b, c] t) ->
  Below w.heap.size w W /\ w.heap.size < W.heap.size /\ (W.cell? ⟨w.heap.size, 0, none⟩ = some a /\ W.cell? ⟨w.heap.size, 1, none⟩ = some b /\ W.cell? ⟨w.heap.size, 2, none⟩ = some c) := by
 rintro W rfl
 have e : (w.alloc (Obj.cells #[a, b, c] t)).heap.size = w.heap.size + 1 := Array.size_push _
 have h0 := heap_alloc_new w (Obj.cells #[a, b, c] t)
 refine ⟨(Below.refl _ _).alloc (Nat.le_refl _) _, by omega, ?_⟩
 simp only [World.cell?, h0]
 exact ⟨rfl, rfl, rfl⟩
end Go.Proofs.YtagmnlmfoanelaaGreat
namespace Go.Proofs.YtagmnlmfoanelaaGreat
open Go.RowKit Der
set_option linter.unusedVariables false
def RowV (w : World) (b n : Nat) (f : Nat -> Value) : Prop := ∃ t, w.heap[b]? = some (.cells ((List.range n).map f).toArray t (0, 0))
theorem RowV.lt {w : World} {b n : Nat} {f : Nat -> Value} (h : RowV w b n f) : b < w.heap.size := by
 obtain ⟨t, h⟩ := h
 rcases Nat.lt_or_ge b w.heap.size with h' | h'
 ·exact h'
 ·rw [Array.getElem?_eq_none h'] at h; cases h
theorem RowV.cell {w : World} {b n : Nat} {f : Nat -> Value} (h : RowV w b n f) {j : Nat} (hj : j < n) : w.cell? ⟨b, j, none⟩ = some (f j) := by
 obtain ⟨t, h⟩ := h
 rw [cell_of_row w b j _ t _ h]
 simp [hj]
theorem RowV.same {w w' : World} {b n : Nat} {f : Nat -> Value} (h : RowV w b n f) (e : w'.heap[b]? = w.heap[b]?) : RowV w' b n f := by
 obtain ⟨t, h⟩ := h
 exact ⟨t, e.trans h⟩
def OwnK (w : World) (base : Nat) : (n : Nat) -> Value -> List (It n) -> List Nat -> Prop
 | 0, v, _, fp => (∃ ao cap, v = .slice ao 0 cap) /\ fp = []
 | n + 1, v, ks, fp => ∃ ao cap, v = .slice ao ks.length cap /\ (ks.length = 0 -> fp = []) /\ (0 < ks.length -> ∃ (g o c : Nat) (f : Nat -> Value) (fps : List (List Nat)), ao = some ⟨g, o, none⟩ /\ base <= g /\ RowV w g c f /\ (o + 3 * ks.length <= c /\ ks.length <= cap) /\ fp = g :: fps.flatten /\ fp.Nodup /\ fps.length = ks.length /\
   ∀ j (hj : j < ks.length) (hj2 : j < fps.length), f (o + j * 3) = .int .i64 (It.tag ks[j]) /\ f (o + j * 3 + 1) = .string ⟨(It.text ks[j]).toArray⟩ /\ OwnK w base n (f (o + j * 3 + 2)) (It.kids ks[j]) fps[j])
theorem OwnK.same {w w' : World} {base : Nat} : ∀ {n : Nat} {v : Value} {ks : List (It n)} {fp : List Nat}, OwnK w base n v ks fp -> (∀ b ∈ fp, w'.heap[b]? = w.heap[b]?) -> OwnK w' base n v ks fp
 | 0, _, _, _, h, _ => h
 | n + 1, v, ks, fp, ⟨ao, cap, hv, h0, h⟩, he => ⟨ao, cap, hv, h0, fun hp => by
   obtain ⟨g, o, c, f, fps, hao, hg, hr, hoc, hfp, hnd, hl, hk⟩ := h hp
   refine ⟨g, o, c, f, fps, hao, hg, hr.same (he g (by rw [hfp]; simp)), hoc, hfp, hnd, hl, fun j hj hj2 => ?_⟩
   obtain ⟨h1, h2, h3⟩ := hk j hj hj2
   exact ⟨h1, h2, OwnK.same h3 fun b hb => he b (by rw [hfp]; exact List.mem_cons_of_mem _ (List.mem_flatten.2 ⟨fps[j], List.getElem_mem hj2, hb⟩))⟩⟩
theorem OwnK.lt {w : World} {base : Nat} : ∀ {n : Nat} {v : Value} {ks : List (It n)} {fp : List Nat}, OwnK w base n v ks fp -> ∀ b ∈ fp, base <= b /\ b < w.heap.size
 | 0, _, _, _, ⟨_, h⟩, b, hb => by rw [h] at hb; cases hb
 | n + 1, v, ks, fp, ⟨ao, cap, hv, h0, h⟩, b, hb => by
   by_cases hp : 0 < ks.length
   ·obtain ⟨g, o, c, f, fps, hao, hg, hr, hoc, hfp, hnd, hl, hk⟩ := h hp
    rw [hfp] at hb
    rcases List.mem_cons.1 hb with rfl | hb
    ·exact ⟨hg, hr.lt⟩
    ·obtain ⟨l, hl1, hl2⟩ := List.mem_flatten.1 hb
     obtain ⟨j, hj, rfl⟩ := List.getElem_of_mem hl1
     exact OwnK.lt (hk j (by omega) hj).2.2 b hl2
   ·rw [h0 (by omega)] at hb; cases hb
theorem OwnK.below {w w' : World} {base B : Nat} {n : Nat} {v : Value} {ks : List (It n)} {fp : List Nat} (h : OwnK w base n v ks fp) (hb : Below B w w') (hB : ∀ b ∈ fp, b < B) : OwnK w' base n v ks fp :=
 h.same fun b hm => hb.block b (hB b hm)
theorem OwnK.at {w : World} {base : Nat} : ∀ {n : Nat} {v : Value} {ks : List (It n)} {fp : List Nat}, OwnK w base n v ks fp -> KidsAt w (ItAt w n) v ks
 | 0, v, ks, fp, ⟨⟨ao, cap, hv⟩, _⟩ => by
   have hk : ks = [] := by
    cases ks with
    | nil => rfl
    | cons x _ => exact (x : Empty).elim
   subst hk
   exact ⟨ao, cap, hv, fun h => absurd h (Nat.lt_irrefl _)⟩
 | n + 1, v, ks, fp, ⟨ao, cap, hv, h0, h⟩ => ⟨ao, cap, hv, fun hp => by
   obtain ⟨g, o, c, f, fps, hao, hg, hr, hoc, hfp, hnd, hl, hk⟩ := h hp
   refine ⟨g, o, hao, hr.lt, fun j hj => ?_⟩
   obtain ⟨h1, h2, h3⟩ := hk j hj (by omega)
   exact ⟨_, _, _, hr.cell (by omega), hr.cell (by omega), hr.cell (by omega), f (o + j * 3 + 2), by rw [h1, h2], OwnK.at h3⟩⟩
end Go.Proofs.YtagmnlmfoanelaaGreat
