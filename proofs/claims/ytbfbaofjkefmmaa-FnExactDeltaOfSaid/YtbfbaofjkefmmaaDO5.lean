/-
  Texts of the proof, one behind the other: ItZ, IntS.
-/
import Derived.OwnWalk
import Derived.Deep.AppendLies
import Derived.Deep.RegionLaw
import Derived.Test.YtbfbaofjkefmmaaChecked
import Derived.WalkKit
import Derived.WalkSpells
import Derived.WalkLawsBesides
import Derived.Handy
import Derived.Test.YtbfbaofjkefmmaaDO2
import Derived.Test.YtbfbaofjkefmmaaDO4

/-
  A row of items that a call makes, one behind the other.
-/
namespace Go.Proofs.Ytbfbaofjkefmmaa
open Go.RowKit Der
set_option linter.unusedVariables false

/-- The cells of items, with the values that lead to their kids. -/
def cellsK {n : Nat} (ks : List (It (n + 1))) (kvs : List Value) : List Value := (ks.zip kvs).flatMap fun p => [.int .i64 (It.tag p.1), .string ⟨(It.text p.1).toArray⟩, p.2]
/-- A row of items that the call makes: its own row, and its kids' in blocks of their own. -/
def GrowK (w : World) (base n : Nat) (v : Value) (ks : List (It (n + 1))) : Prop := ∃ (kvs : List Value) (fps : List (List Nat)), ks.length = kvs.length ∧ ks.length = fps.length ∧ w.ownsRow base 47 3 v ks.length (cellsK ks kvs) ∧ fps.flatten.Nodup ∧ (∀ g, v.ownBlock = some g → g ∉ fps.flatten) ∧
  ∀ j (h1 : j < ks.length) (h2 : j < kvs.length) (h3 : j < fps.length), OwnK w base n kvs[j] (It.kids ks[j]) fps[j]
theorem GrowK.nil (w : World) (base n : Nat) : GrowK w base n (.slice none 0 0) [] := ⟨[], [], rfl, rfl, World.ownsRow_nil _ _ _ _, by simp, fun g hg => by simp [Value.ownBlock] at hg, fun j h => absurd h (Nat.not_lt_zero _)⟩
theorem GrowK.shape {w : World} {base n : Nat} {v : Value} {ks : List (It (n + 1))} (h : GrowK w base n v ks) : ∃ ao cap, v = .slice ao ks.length cap := by
  obtain ⟨kvs, fps, h1, h2, ho, _⟩ := h
  rcases ho.2 with ⟨h, h0⟩ | ⟨g, cap, cur, hv, _⟩
  · exact ⟨none, 0, by rw [h, h0]⟩
  · exact ⟨_, cap, hv⟩
theorem GrowK.lt {w : World} {base n : Nat} {v : Value} {ks : List (It (n + 1))} (h : GrowK w base n v ks) : ∀ g, v.ownBlock = some g → base ≤ g ∧ g < w.heap.size := by
  obtain ⟨kvs, fps, h1, h2, ho, _⟩ := h
  exact ho.lt
theorem own_kept {w w' : World} {base : Nat} {e : TypeId} {size : Nat} {v : Value} {n : Nat} {xs : List Value} (h : w.ownsRow base e size v n xs) (hb : Below w.heap.size w w') : w'.ownsRow base e size v n xs :=
  h.kept ⟨hb.os, hb.tape, hb.output, hb.size, fun k hk _ => hb.block k hk⟩ (row := none) (by cases hv : v.ownBlock <;> simp)
theorem GrowK.below {w w' : World} {base n : Nat} {v : Value} {ks : List (It (n + 1))} (h : GrowK w base n v ks) (hb : Below w.heap.size w w') : GrowK w' base n v ks := by
  obtain ⟨kvs, fps, h1, h2, ho, h3, h4, h5⟩ := h
  refine ⟨kvs, fps, h1, h2, own_kept ho hb, h3, h4, fun j a b c => ?_⟩
  have := h5 j a b c
  exact this.below hb fun x hx => (OwnK.lt this x hx).2
theorem nodup_app {a b : List Nat} (ha : a.Nodup) (hb : b.Nodup) (hd : ∀ x ∈ a, x ∉ b) : (a ++ b).Nodup := List.nodup_append.2 ⟨ha, hb, fun x hx y hy e => hd x hx (e ▸ hy)⟩
end Go.Proofs.Ytbfbaofjkefmmaa

/-
  The law's helpers over lists of numbers: eqIntS, markIntS, heldIntS.
-/
namespace Go.Proofs.Ytbfbaofjkefmmaa
open Go.RowKit

/-- Numbers as cells. -/
def cellsI (l : List Int) : List Value := l.map fun z => Value.int .i64 z
/-- A list of numbers can be read at a value. -/
def IntAt (w : World) (v : Value) (l : List Int) : Prop := ∃ ao cap, v = .slice ao l.length cap ∧ (0 < l.length → ∃ g, ao = some ⟨g, 0, none⟩ ∧ g < w.heap.size ∧ ∀ j (hj : j < l.length), w.cell? ⟨g, j, none⟩ = some (.int .i64 l[j]))
theorem IntAt.below {w w' : World} {v : Value} {l : List Int} (h : IntAt w v l) (hb : Below w.heap.size w w') : IntAt w' v l := by
  obtain ⟨ao, cap, hv, h⟩ := h
  refine ⟨ao, cap, hv, fun hl => ?_⟩
  obtain ⟨g, hg, hlt, hc⟩ := h hl
  exact ⟨g, hg, Nat.lt_of_lt_of_le hlt hb.size, fun j hj => by rw [hb.cell (p := ⟨g, j, none⟩) hlt]; exact hc j hj⟩
theorem IntAt.of_own {w : World} {base : Nat} {v : Value} {l : List Int} (h : w.ownsRow base 3 1 v l.length (cellsI l)) : IntAt w v l := by
  have hc := fun g (hg : v.ownBlock = some g) => (h.lt g hg).2
  have h' := h
  obtain ⟨h1, h2⟩ := h
  rcases h2 with ⟨rfl, h0⟩ | ⟨g, cap, cur, rfl, hbg, hg, r⟩
  · exact ⟨none, 0, by rw [h0], fun hl => by omega⟩
  · refine ⟨some ⟨g, 0, none⟩, cap, rfl, fun hl => ⟨g, rfl, hc g rfl, fun j hj => ?_⟩⟩
    rw [h'.cellAt j (by omega)]
    simp [cellsI, hj]

end Go.Proofs.Ytbfbaofjkefmmaa
