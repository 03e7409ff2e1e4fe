/-
  The law's helpers over lists of numbers that came in, and over those that a call owns: toIntS, markIntS.
-/
import Derived.Test.YtbiiihjohbnodaaNatB
namespace Go.Proofs.Ytbiiihjohbnodaa
open Go.RowKit

/-- Numbers that a machine's word holds. -/
def Wd (l : List Int) : Prop := ∀ x ∈ l, -9223372036854775808 ≤ x ∧ x ≤ 9223372036854775807
theorem Dig.wd {l : List Int} (h : Dig l) : Wd l := fun x hx => by have := h x hx; omega
/-- A list of numbers that came in, at whatever place. -/
def ArgAt (B : Nat) (w : World) (a0 : Option Addr) (l : List Int) : Prop := ∀ j, j < l.length → ∃ b off, a0 = some ⟨b, off, none⟩ ∧ b < B ∧ w.cell? ⟨b, off + j, none⟩ = some (.int .i64 (l.getD j 0))
theorem ArgAt.below {B : Nat} {w w' : World} {a0 : Option Addr} {l : List Int} (h : ArgAt B w a0 l) (hb : Below B w w') : ArgAt B w' a0 l := fun j hj => by
  obtain ⟨b, off, e, hbB, hc⟩ := h j hj
  exact ⟨b, off, e, hbB, (hb.cell (p := ⟨b, off + j, none⟩) hbB).trans hc⟩
theorem lt_of_cell {w : World} {p : Addr} {v : Value} (h : w.cell? p = some v) : p.block < w.heap.size := by
  rcases Nat.lt_or_ge p.block w.heap.size with h1 | h1
  · exact h1
  · unfold World.cell? at h
    rw [Array.getElem?_eq_none h1] at h
    simp at h
theorem argAt_of {W : World} {x : Addr} {len cap : Nat} {zs : List Int} (hl : len ≤ cap) (hz : zs.length = cap) (hcell : ∀ i, i < zs.length → W.cell? (x.add i) = some (.int .i64 (zs.getD i 0))) (hwz : ∀ n ∈ zs, (Lit.int .i64 n).wf = true) :
    (zs.take len).length = len ∧ Wd (zs.take len) ∧ ArgAt W.heap.size W (some x) (zs.take len) := by
  have hlen : (zs.take len).length = len := by simp; omega
  refine ⟨hlen, fun n hn => ?_, fun j hj => ?_⟩
  · have hw := hwz n (List.mem_of_mem_take hn)
    simpa [Lit.wf, IntKind.min, IntKind.max, IntKind.signed, IntKind.bits] using hw
  · rw [hlen] at hj
    have hc := hcell j (by omega)
    have hc0 := hcell 0 (by omega)
    obtain ⟨b, off, spot⟩ := x
    have hspot : spot = none := by simpa [Addr.add] using World.cell?_spot hc0
    subst hspot
    rw [Addr.add_lit] at hc
    refine ⟨b, off, rfl, lt_of_cell hc, ?_⟩
    rw [hc, getD_take hj]

/-- Two values that lie in no block together. -/
def Ap (u v : Value) : Prop := u.ownBlock = none ∨ u.ownBlock ≠ v.ownBlock
theorem OwnI.apart {w w' : World} {b b' : Nat} {u v : Value} {l l' : List Int} (hu : OwnI w b u l) (hv : OwnI w' b' v l') (hb : w.heap.size ≤ b') : Ap u v ∧ Ap v u := by
  rcases hv.2 with ⟨rfl, _⟩ | ⟨g', cap', cur', rfl, hbg', _⟩
  · refine ⟨?_, .inl rfl⟩
    rcases hu.2 with ⟨rfl, _⟩ | ⟨g, cap, cur, rfl, _⟩
    · exact .inl rfl
    · exact .inr (by simp [Value.ownBlock])
  · rcases hu.2 with ⟨rfl, _⟩ | ⟨g, cap, cur, rfl, _, hg, _⟩
    · exact ⟨.inl rfl, .inr (by simp [Value.ownBlock])⟩
    · have hlt : g < w.heap.size := by
        rcases Nat.lt_or_ge g w.heap.size with h | h
        · exact h
        · rw [Array.getElem?_eq_none h] at hg; cases hg
      exact ⟨.inr (by simp [Value.ownBlock]; omega), .inr (by simp [Value.ownBlock]; omega)⟩
theorem OwnI.aside {w w' : World} {b : Nat} {u v : Value} {l : List Int} (h : OwnI w b u l) (hg : w.grownBy w' v.ownBlock) (ha : Ap u v) : OwnI w' b u l := World.ownsRow.kept h hg ha
theorem OwnI.below_of {w w' : World} {b B : Nat} {v : Value} {l : List Int} (h : OwnI w b v l) (hg : w.grownBy w' v.ownBlock) (hb : B ≤ b) (hB : B ≤ w.heap.size) : Below B w w' :=
  (Below.refl _ _).grown hg hB (fun k hk => Nat.le_trans hb (World.ownsRow.lt h k hk).1)

end Go.Proofs.Ytbiiihjohbnodaa
