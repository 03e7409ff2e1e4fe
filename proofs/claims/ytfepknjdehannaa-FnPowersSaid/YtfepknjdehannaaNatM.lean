/-
  The program's naturalOf, ReadNat and NatFigures.
-/
import Derived.Test.YtfepknjdehannaaNatL
import Derived.Test.YtfepknjdehannaaFigI
import Derived.Test.YtfepknjdehannaaSpF
namespace Go.Proofs.Ytfepknjdehannaa
open Go.RowKit

/-- A row of bytes can be read at a value. -/
def ByAt (w : World) (v : Value) (l : List Int) : Prop := ∃ ao cap, v = .slice ao l.length cap ∧ (0 < l.length → ∃ g, ao = some ⟨g, 0, none⟩ ∧ g < w.heap.size ∧ ∀ j, j < l.length → w.cell? ⟨g, j, none⟩ = some (.int .u8 (l.getD j 0)))
theorem horn_take_bd {b : Int} (hb : 1 ≤ b ∧ b ≤ 1000) {l : List Int} (h : ∀ x ∈ l, 0 ≤ x ∧ x < b) (k : Nat) (hk : k ≤ l.length) : 0 ≤ horn b (l.take k) ∧ (digs (horn b (l.take k))).length ≤ k := by
  have := horn_bd (b := b) (by omega) (l.take k) (fun x hx => h x (List.mem_of_mem_take hx))
  have hl : (l.take k).length = k := by simp; omega
  rw [hl] at this
  exact ⟨this.1, digs_len this.1 this.2⟩
theorem getD_mem {l : List Int} {k : Nat} (h : k < l.length) : l.getD k 0 ∈ l := by
  rw [List.getD_eq_getElem?_getD, List.getElem?_eq_getElem h]
  exact List.getElem_mem _

/-- What figures tell: nothing where one is none. -/
def figL (s : ByteArray) : List Int := if s.size ≤ 140 then (match fvals 10 s.data.toList with | some vs => digs (horn 10 (vs.map fun x : Nat => (x : Int))) | none => []) else []
end Go.Proofs.Ytfepknjdehannaa
