/-
  Texts of the proof.
-/
import Derived.Deep.RegionHeld3
import Derived.Test.YtmmbioflmglbdaaRA6
namespace Go.Proofs.Ytmmbioflmglbdaa
open Go.RowKit Der
set_option linter.unusedVariables false
def ToIt (w : World) (n : Nat) (x : It (n + 1)) (e : Ending) (w' : World) : Prop := ∃ k fp, e = .returned (.agg #[.int .i64 (It.tag x), .string ⟨(It.text x).toArray⟩, k]) /\ OwnK w' w.heap.size n k (It.kids x) fp /\ Below w.heap.size w w'
theorem OwnK.base {w : World} {B base : Nat} (hB : B <= base) : ∀ {n : Nat} {v : Value} {ks : List (It n)} {fp : List Nat}, OwnK w base n v ks fp -> OwnK w B n v ks fp
 | 0, _, _, _, h => h
 | n + 1, v, ks, fp, ⟨ao, cap, hv, h0, h⟩ => ⟨ao, cap, hv, h0, fun hp => by
   obtain ⟨g, o, c, f, fps, hao, hg, hr, hoc, hfp, hnd, hl, hk⟩ := h hp
   refine ⟨g, o, c, f, fps, hao, Nat.le_trans hB hg, hr, hoc, hfp, hnd, hl, fun j hj hj2 => ?_⟩
   obtain ⟨h1, h2, h3⟩ := hk j hj hj2
   exact ⟨h1, h2, OwnK.base hB h3⟩⟩
theorem OwnK.shape {w : World} {base n : Nat} {v : Value} {ks : List (It n)} {fp : List Nat} (h : OwnK w base n v ks fp) : ∃ ao cap, v = .slice ao ks.length cap := by
 obtain ⟨ao, cap, hv, _⟩ := h.at
 exact ⟨ao, cap, hv⟩
theorem cell_in {w : World} {b : Nat} {x y z : Value} {t : TypeId} (h : w.heap[b]? = some (.cells #[x, y, z] t (0, 0))) : (w.cell? ⟨b, 0, none⟩ = some x /\ w.cell? ⟨b, 1, none⟩ = some y /\ w.cell? ⟨b, 2, none⟩ = some z) /\ ∀ j, w.frozen? ⟨b, j, none⟩ = false := by
 refine ⟨?_, fun j => by simp [World.frozen?, h]⟩
 simp only [World.cell?, h]
 exact ⟨rfl, rfl, rfl⟩
theorem infoItem : (Try.prog.info? 47).map (fun i => (i.zero, i.size, i.bytes)) = some (some (.agg #[.int .i64 0, .string ⟨#[]⟩, .slice none 0 0]), 3, 48) := by kernel_rfl
theorem infoItem_parts : ∃ i, Try.prog.info? 47 = some i /\ i.zero = some (.agg #[.int .i64 0, .string ⟨#[]⟩, .slice none 0 0]) /\ i.size = 3 /\ i.bytes = 48 := by
 cases h : Try.prog.info? 47 with
 | none => have := infoItem; rw [h] at this; cases this
 | some i =>
  have := infoItem
  rw [h] at this
  simp only [Option.map_some, Option.some.injEq, Prod.mk.injEq] at this
  exact ⟨i, rfl, this.1, this.2.1, this.2.2⟩
theorem rowV_of {w : World} {g n : Nat} {cur : Array Value} {t : TypeId} (h : w.heap[g]? = some (.cells cur t (0, 0))) (hn : cur.size = n) : RowV w g n (fun j => cur.getD j (.int .i64 0)) := by
 refine ⟨t, ?_⟩
 rw [h]
 congr 2
 apply Array.ext'
 apply List.ext_getElem?
 intro i
 simp only [List.getElem?_map]
 by_cases hi : i < n
 ·rw [List.getElem?_range hi]
  simp [Array.getD, hn, hi]
 ·have e : (List.range n)[i]? = none := by simp; omega
  rw [e]
  simp
  omega
theorem OwnK.nodup {w : World} {base : Nat} : ∀ {n : Nat} {v : Value} {ks : List (It n)} {fp : List Nat}, OwnK w base n v ks fp -> fp.Nodup
 | 0, _, _, _, ⟨_, h⟩ => by rw [h]; exact List.nodup_nil
 | n + 1, v, ks, fp, ⟨ao, cap, hv, h0, h⟩ => by
   by_cases hp : 0 < ks.length
   ·obtain ⟨g, o, c, f, fps, hao, hg, hr, hoc, hfp, hnd, hl, hk⟩ := h hp
    exact hnd
   ·rw [h0 (by omega)]; exact List.nodup_nil
theorem szS_kid {n : Nat} {ks : List (It n)} {b : Nat} (h : szS n ks <= b) : ks.length <= b /\ ∀ y ∈ ks, szI n y <= b := by
 unfold szS at h
 exact ⟨by omega, fun y hy => by have := sum_mem (ks.map (szI n)) (szI n y) (List.mem_map.2 ⟨y, hy, rfl⟩); omega⟩
end Go.Proofs.Ytmmbioflmglbdaa
