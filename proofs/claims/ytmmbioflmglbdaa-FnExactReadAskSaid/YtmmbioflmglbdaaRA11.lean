/-
  Texts of the proof.
-/
import Derived.Deep.RegionLaw
import Derived.WalkKit
import Derived.Laws.RangeString
import Derived.Laws.RangeAny
import Derived.Test.YtmmbioflmglbdaaRA4
import Derived.Test.YtmmbioflmglbdaaRA10
set_option maxRecDepth 100000
namespace Go.Proofs.Ytmmbioflmglbdaa
open Go.RowKit Der
set_option linter.unusedVariables false
def Blk3 (w : World) (g : Nat) (a b c : Value) : Prop := w.heap[g]? = some (.cells #[a, b, c] 47 (0, 0))
theorem Blk3.lt {w : World} {g : Nat} {a b c : Value} (h : Blk3 w g a b c) : g < w.heap.size := by
 rcases Nat.lt_or_ge g w.heap.size with h' | h'
 ·exact h'
 ·unfold Blk3 at h; rw [Array.getElem?_eq_none h'] at h; cases h
theorem Blk3.below {w w' : World} {g : Nat} {a b c : Value} (h : Blk3 w g a b c) (hb : Below w.heap.size w w') : Blk3 w' g a b c := (hb.block g h.lt).trans h
theorem Blk3.grown {w w' : World} {g : Nat} {a b c : Value} {row : Option Nat} (h : Blk3 w g a b c) (hg : w.grownBy w' row) (hne : some g ≠ row) : Blk3 w' g a b c := (hg.block g h.lt hne).trans h
theorem Blk3.other {w : World} {g : Nat} {a b c : Value} (h : Blk3 w g a b c) {p : Addr} (hne : g ≠ p.block) (v : Value) : Blk3 (w.setCell p v) g a b c := (heap_setCell_other _ _ _ _ hne).trans h
theorem Blk3.set {w : World} {g : Nat} {a b c : Value} (h : Blk3 w g a b c) (v : Value) : Blk3 (w.setCell ⟨g, 2, none⟩ v) g a b v := by
 unfold Blk3 at h |-
 rw [heap_setCell_same w g 2 _ _ _ h]
 rfl
theorem two_blk (w : World) (p q r : Value) (x y z : Value) : ∀ W, W = (w.alloc (Obj.cells #[p, q, r] 47)).alloc (Obj.cells #[x, y, z] 47) -> Below w.heap.size w W /\ W.heap.size = w.heap.size + 2 /\ Blk3 W w.heap.size p q r /\ Blk3 W (w.heap.size + 1) x y z := by
 rintro W rfl
 have e : (w.alloc (Obj.cells #[p, q, r] 47)).heap.size = w.heap.size + 1 := Array.size_push _
 refine ⟨((Below.refl _ _).alloc (Nat.le_refl _) _).alloc (by rw [e]; omega) _, ?_, ?_, ?_⟩
 ·rw [show ((w.alloc (Obj.cells #[p, q, r] 47)).alloc (Obj.cells #[x, y, z] 47)).heap.size = (w.alloc (Obj.cells #[p, q, r] 47)).heap.size + 1 from Array.size_push _, e]
 ·show ((w.heap.push (Obj.cells #[p, q, r] 47)).push (Obj.cells #[x, y, z] 47))[w.heap.size]? = _
  rw [Array.getElem?_push, if_neg (by rw [Array.size_push]; omega), Array.getElem?_push, if_pos rfl]
 ·have h := heap_alloc_new (w.alloc (Obj.cells #[p, q, r] 47)) (Obj.cells #[x, y, z] 47)
  rw [e] at h
  exact h
theorem GrowK.out {w w' : World} {base n : Nat} {v : Value} {ks : List (It (n + 1))} (h : GrowK w base n v ks) (he : ∀ b, base <= b -> w'.heap[b]? = w.heap[b]?) : GrowK w' base n v ks := by
 obtain ⟨kvs, fps, h1, h2, ho, h3, h4, h5⟩ := h
 refine ⟨kvs, fps, h1, h2, ⟨ho.1, ?_⟩, h3, h4, fun j a b c => ?_⟩
 ·rcases ho.2 with hn | ⟨g, cap, cur, hv, hb, hg, rest⟩
  ·exact .inl hn
  ·exact .inr ⟨g, cap, cur, hv, hb, by rw [he g hb]; exact hg, rest⟩
 ·have := h5 j a b c
  exact this.same fun x hx => he x (OwnK.lt this x hx).1
def intI {n : Nat} (x : Int) : It (n + 1) := It.mk 2 (intT (numN x)) []
def bytJ {n : Nat} (s : ByteArray) : It (n + 1) := It.mk 4 s.data.toList []
def flagJ {n : Nat} (b : Bool) : It (n + 1) := It.mk 1 [if b then 255 else 0] []
def lstJ {n : Nat} (ks : List (It n)) : It (n + 1) := It.mk 48 [] ks
theorem bytes_any (s : ByteArray) (w : World) : Calls Try.prog 40 #[.string s] w fun e w' => e = .returned (.agg #[.int .i64 4, .string s, .slice none 0 0]) /\ Below w.heap.size w w' := by
 go_enter Try.func40, Try.ntmps40
 go_wp2_with fail
 refine bodyPost_ret (v := .agg #[.int .i64 4, .string s, .slice none 0 0]) (by simp [results, Try.results40, go_sem]; try rfl) rfl ⟨rfl, ?_⟩
 exact (Below.refl _ _).alloc (Nat.le_refl _) _
theorem flag_any (b : Bool) (w : World) : Calls Try.prog 27 #[.bool b] w fun e w' => e = .returned (.agg #[.int .i64 1, .string ⟨[if b then 255 else 0].toArray⟩, .slice none 0 0]) /\ Below w.heap.size w w' := by
 cases b with
 | true =>
  go_enter Try.func27, Try.ntmps27
  go_wp2_with fail
  refine bodyPost_ret (v := .agg #[.int .i64 1, .string ⟨#[255]⟩, .slice none 0 0]) (by simp [results, Try.results27, go_sem]; try rfl) rfl ⟨rfl, ?_⟩
  exact (Below.refl _ _).alloc (Nat.le_refl _) _
 | false =>
  go_enter Try.func27, Try.ntmps27
  go_wp2_with fail
  refine bodyPost_ret (v := .agg #[.int .i64 1, .string ⟨#[0]⟩, .slice none 0 0]) (by simp [results, Try.results27, go_sem]; try rfl) rfl ⟨rfl, ?_⟩
  exact (Below.refl _ _).alloc (Nat.le_refl _) _
theorem own_none (w : World) (base : Nat) : ∀ n, OwnK w base n (.slice none 0 0) [] []
 | 0 => ⟨⟨none, 0, rfl⟩, rfl⟩
 | _ + 1 => ⟨none, 0, rfl, fun _ => rfl, fun h => absurd h (Nat.lt_irrefl _)⟩
theorem both_below {wr w3 : World} {g h o : Nat} {kv t : Value} (hc : wr.cell? ⟨g, 2, none⟩ = some kv /\ wr.cell? ⟨h, o, none⟩ = some t) (hg : g < wr.heap.size) (hh : h < wr.heap.size) (hb : Below wr.heap.size wr w3) : w3.cell? ⟨g, 2, none⟩ = some kv /\ w3.cell? ⟨h, o, none⟩ = some t :=
 ⟨(hb.cell (p := ⟨g, 2, none⟩) hg).trans hc.1, (hb.cell (p := ⟨h, o, none⟩) hh).trans hc.2⟩
theorem both_grown {w5 w6 : World} {g h o : Nat} {kv t : Value} {row : Option Nat} (hc : w5.cell? ⟨g, 2, none⟩ = some kv /\ w5.cell? ⟨h, o, none⟩ = some t) (hg : w5.grownBy w6 row) (n1 : some g ≠ row) (n2 : some h ≠ row) : w6.cell? ⟨g, 2, none⟩ = some kv /\ w6.cell? ⟨h, o, none⟩ = some t :=
 ⟨hg.cell hc.1 n1, hg.cell hc.2 n2⟩
end Go.Proofs.Ytmmbioflmglbdaa
