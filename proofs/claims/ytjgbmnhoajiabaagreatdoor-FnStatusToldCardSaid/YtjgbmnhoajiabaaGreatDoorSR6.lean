/-
  Texts of the proof.
-/
import Derived.Deep.RegionHeld3
import Derived.Laws.OwnMore
import Derived.Test.YtjgbmnhoajiabaaGreatDoorSR3
import Derived.Test.YtjgbmnhoajiabaaGreatDoorSR5
namespace Go.Proofs.YtjgbmnhoajiabaaGreatDoor
open Go.RowKit
set_option linter.unusedVariables false
def Blk (w : World) (b : Nat) (t : TypeId) (vs : Array Value) : Prop := w.heap[b]? = some (.cells vs t (0, 0))
theorem Blk.lt {w : World} {b : Nat} {t : TypeId} {vs : Array Value} (h : Blk w b t vs) : b < w.heap.size := by
 rcases Nat.lt_or_ge b w.heap.size with h1 | h1
 ·exact h1
 ·unfold Blk at h; rw [Array.getElem?_eq_none h1] at h; cases h
theorem Blk.below {w w' : World} {b : Nat} {t : TypeId} {vs : Array Value} (h : Blk w b t vs) {B : Nat} (hb : Below B w w') (hB : b < B) : Blk w' b t vs := (hb.block b hB).trans h
theorem Blk.other {w : World} {b : Nat} {t : TypeId} {vs : Array Value} (h : Blk w b t vs) {p : Addr} (v : Value) (hp : b ≠ p.block) : Blk (w.setCell p v) b t vs := (heap_setCell_other _ _ _ _ hp).trans h
theorem Blk.set {w : World} {b : Nat} {t : TypeId} {vs : Array Value} (h : Blk w b t vs) (i : Nat) (v : Value) : Blk (w.setCell ⟨b, i, none⟩ v) b t (vs.setIfInBounds i v) := heap_setCell_same w b i _ t _ h
theorem size_alloc (w : World) (o : Obj) : (w.alloc o).heap.size = w.heap.size + 1 := Array.size_push _
theorem Blk.free {w : World} {b : Nat} {t : TypeId} {vs : Array Value} (h : Blk w b t vs) (j : Nat) : w.frozen? ⟨b, j, none⟩ = false := by
 unfold Blk at h
 simp [World.frozen?, h]
theorem Blk.cell {w : World} {b : Nat} {t : TypeId} {vs : Array Value} (h : Blk w b t vs) (j : Nat) : w.cell? ⟨b, j, none⟩ = vs[j]? := by
 unfold Blk at h
 simp [World.cell?, h]
theorem Blk.new (w : World) (t : TypeId) (vs : Array Value) : Blk (w.alloc (.cells vs t)) w.heap.size t vs := heap_alloc_new w _
theorem Blk.alloc {w : World} {b : Nat} {t : TypeId} {vs : Array Value} (h : Blk w b t vs) (o : Obj) : Blk (w.alloc o) b t vs := (heap_alloc_old w o h.lt).trans h
end Go.Proofs.YtjgbmnhoajiabaaGreatDoor
namespace Go.Proofs.YtjgbmnhoajiabaaGreatDoor
open Go.RowKit
theorem cat_oneM (f : UInt8) (ds : List UInt8) : (⟨#[f]⟩ : ByteArray) ++ (⟨ds.toArray⟩ : ByteArray) = ⟨(f :: ds).toArray⟩ := by
 apply ByteArray.ext
 simp [ByteArray.data_append]
end Go.Proofs.YtjgbmnhoajiabaaGreatDoor
namespace Go.Proofs.YtjgbmnhoajiabaaGreatDoor
open Go.RowKit Der
set_option linter.unusedVariables false
def Out (fp : List Nat) (w w' : World) : Prop := w'.os = w.os /\ w'.tape = w.tape /\ w'.output = w.output /\ w.heap.size <= w'.heap.size /\ ∀ b, b < w.heap.size -> b ∉ fp -> w'.heap[b]? = w.heap[b]?
theorem Out.refl (fp : List Nat) (w : World) : Out fp w w := ⟨rfl, rfl, rfl, Nat.le_refl _, fun _ _ _ => rfl⟩
theorem Out.trans {fp : List Nat} {a b c : World} (h1 : Out fp a b) (h2 : Out fp b c) : Out fp a c :=
 ⟨h2.1.trans h1.1, h2.2.1.trans h1.2.1, h2.2.2.1.trans h1.2.2.1, Nat.le_trans h1.2.2.2.1 h2.2.2.2.1, fun k hk hn => (h2.2.2.2.2 k (Nat.lt_of_lt_of_le hk h1.2.2.2.1) hn).trans (h1.2.2.2.2 k hk hn)⟩
theorem Out.of_below {fp : List Nat} {a b : World} (h : Below a.heap.size a b) : Out fp a b := ⟨h.os, h.tape, h.output, h.size, fun k hk _ => h.block k hk⟩
theorem Out.setCell {fp : List Nat} {a b : World} (h : Out fp a b) (p : Addr) (v : Value) (hp : p.block ∈ fp) : Out fp a (b.setCell p v) := by
 have hb := (Below.refl 0 b).setCell (p := p) (Nat.zero_le _) v
 exact ⟨hb.os.trans h.1, hb.tape.trans h.2.1, hb.output.trans h.2.2.1, Nat.le_trans h.2.2.2.1 hb.size, fun k hk hn => by
  have hne : k ≠ p.block := fun e => hn (by rw [e]; exact hp)
  rw [heap_setCell_other b p k v hne]
  exact h.2.2.2.2 k hk hn⟩
theorem Out.below {fp : List Nat} {a b : World} {B : Nat} (h : Out fp a b) (hB : ∀ x ∈ fp, B <= x) (hs : B <= a.heap.size) : Below B a b := ⟨h.1, h.2.1, h.2.2.1, h.2.2.2.1, fun k hk => h.2.2.2.2 k (Nat.lt_of_lt_of_le hk hs) fun hm => by have := hB k hm; omega⟩
end Go.Proofs.YtjgbmnhoajiabaaGreatDoor
