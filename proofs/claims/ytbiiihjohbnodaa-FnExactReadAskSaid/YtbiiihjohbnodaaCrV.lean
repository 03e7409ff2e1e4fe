/-
  What the laws' walks carry along: variables' blocks, letters and items of one's own, beside what is turned.
-/
import Derived.Test.YtbiiihjohbnodaaCrJ
import Derived.Test.YtbiiihjohbnodaaCrL
import Derived.Test.YtbiiihjohbnodaaCrU
import Derived.Test.YtbiiihjohbnodaaItI
import Derived.Test.YtbiiihjohbnodaaItB
namespace Go.Proofs.Ytbiiihjohbnodaa
open Go.RowKit Der
set_option linter.unusedVariables false

theorem Blk.out {w w' : World} {b : Nat} {t : TypeId} {vs : Array Value} {fp : List Nat} (h : Blk w b t vs) (ho : Out fp w w') (hn : b ∉ fp) : Blk w' b t vs := (ho.2.2.2.2 b h.lt hn).trans h
theorem Blk3.out {w w' : World} {g : Nat} {a b c : Value} {fp : List Nat} (h : Blk3 w g a b c) (ho : Out fp w w') (hn : g ∉ fp) : Blk3 w' g a b c := (ho.2.2.2.2 g h.lt hn).trans h
theorem OwnK.out {w w' : World} {base n : Nat} {v : Value} {ks : List (It n)} {fp fq : List Nat} (h : OwnK w base n v ks fp) (ho : Out fq w w') (hn : ∀ b ∈ fp, b ∉ fq) : OwnK w' base n v ks fp := h.same fun b hb => ho.2.2.2.2 b (OwnK.lt h b hb).2 (hn b hb)
theorem OwnK.on {w w' : World} {base n : Nat} {v : Value} {ks : List (It n)} {fp : List Nat} (h : OwnK w base n v ks fp) (hb : Below w.heap.size w w') : OwnK w' base n v ks fp := h.below hb fun b hm => (OwnK.lt h b hm).2
theorem Below.on {B : Nat} {w W W' : World} (h : Below B w W) (hb : Below W.heap.size W W') (hB : B ≤ W.heap.size) : Below B w W' := h.trans (hb.mono hB)
theorem Below.out {B : Nat} {w W W' : World} {fp : List Nat} (h : Below B w W) (ho : Out fp W W') (hf : ∀ b ∈ fp, B ≤ b) (hB : B ≤ W.heap.size) : Below B w W' := h.trans (ho.below hf hB)
theorem Blk3.new (w : World) (a b c : Value) : Blk3 (w.alloc (.cells #[a, b, c] 67)) w.heap.size a b c := heap_alloc_new w _
theorem Blk3.alloc {w : World} {g : Nat} {a b c : Value} (h : Blk3 w g a b c) (o : Obj) : Blk3 (w.alloc o) g a b c := (heap_alloc_old w o h.lt).trans h
theorem Blk3.cell {w : World} {g : Nat} {a b c : Value} (h : Blk3 w g a b c) (j : Nat) : w.cell? ⟨g, j, none⟩ = #[a, b, c][j]? := Blk.cell (show Blk w g 67 #[a, b, c] from h) j
end Go.Proofs.Ytbiiihjohbnodaa
