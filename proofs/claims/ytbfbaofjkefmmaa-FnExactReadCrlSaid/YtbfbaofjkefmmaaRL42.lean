/-
  Texts of the proof, one behind the other: DrH.
-/
import Derived.Test.YtbfbaofjkefmmaaRL28
import Derived.Test.YtbfbaofjkefmmaaRL34
import Derived.Test.YtbfbaofjkefmmaaRL41

/-
  A list of what was called back stored whole into a variable's block, loaded, made, as one step of a walk.
-/
namespace Go.Proofs.Ytbfbaofjkefmmaa
open Go.RowKit Der
set_option linter.unusedVariables false
set_option linter.unusedSimpArgs false

set_option maxHeartbeats 3200000 in
set_option maxRecDepth 100000 in
theorem step_store7 {ops : Array Oper} {rest : List Oper} {op : Oper} {a : Act} {w : World} {Q : Exit → Act → World → Prop} {x y : Operand} (b : Nat) {t : TypeId} {a0 a1 a2 a3 a4 a5 a6 : Value} (s0 : ByteArray) (i1 i2 i3 i4 : Int) (p5 : Option Addr) (l5 c5 : Nat) (s6 : ByteArray)
    (h : Blk w b t #[a0, a1, a2, a3, a4, a5, a6]) (hgd : op.guard = none) (hds : op.dst = none) (ho : op.op = .store 24 x y) (hx : a.eval x = .pointer (some ⟨b, 0, none⟩)) (hy : a.eval y = .agg #[.string s0, .int .i64 i1, .int .i64 i2, .int .i64 i3, .int .i64 i4, .slice p5 l5 c5, .string s6])
    (hk : ∀ W, Out [b] w W → Blk W b t #[.string s0, .int .i64 i1, .int .i64 i2, .int .i64 i3, .int .i64 i4, .slice p5 l5 c5, .string s6] → wpList Try.prog ops Q rest a W) : wpList Try.prog ops Q (op :: rest) a w :=
  wpList_plain hgd fun _ hK => by
    have k0 : w.cell? ⟨b, 0, none⟩ = some a0 := h.cell 0
    have k1 : w.cell? ⟨b, 1, none⟩ = some a1 := h.cell 1
    have k2 : w.cell? ⟨b, 2, none⟩ = some a2 := h.cell 2
    have k3 : w.cell? ⟨b, 3, none⟩ = some a3 := h.cell 3
    have k4 : w.cell? ⟨b, 4, none⟩ = some a4 := h.cell 4
    have k5 : w.cell? ⟨b, 5, none⟩ = some a5 := h.cell 5
    have k6 : w.cell? ⟨b, 6, none⟩ = some a6 := h.cell 6
    have fz := fun j => h.free j
    unfold Oper.wp execOp
    simp only [ho, hx, hy]
    simp [go_sem, k0, k1, k2, k3, k4, k5, k6, fz]
    generalize hV : World.setCell _ { block := b, off := 6 } (Value.string s6) = V
    have ho1 : Out [b] w V := by
      rw [← hV]
      iterate 7 refine Out.setCell ?_ _ _ (by simp)
      exact Out.refl _ _
    have hB1 : Blk V b t #[.string s0, .int .i64 i1, .int .i64 i2, .int .i64 i3, .int .i64 i4, .slice p5 l5 c5, .string s6] := by rw [← hV]; exact set7 h
    rw [hds]
    exact hK _ _ (hk V ho1 hB1)
theorem step_buildL {ops : Array Oper} {rest : List Oper} {op : Oper} {a : Act} {w : World} {Q : Exit → Act → World → Prop} (hgd : op.guard = none) (ho : op.op = .build 24 #[]) (hk : wpList Try.prog ops Q rest (a.put op.dst (.agg #[.string ⟨#[]⟩, .int .i64 0, .int .i64 0, .int .i64 0, .int .i64 0, .slice none 0 0, .string ⟨#[]⟩])) w) : wpList Try.prog ops Q (op :: rest) a w :=
  wpList_plain hgd fun _ hK => by
    unfold Oper.wp execOp
    simp only [ho]
    simp [go_sem]
    exact hK _ _ hk
set_option maxHeartbeats 3200000 in
set_option maxRecDepth 100000 in
theorem step_load7 {ops : Array Oper} {rest : List Oper} {op : Oper} {a : Act} {w : World} {Q : Exit → Act → World → Prop} {x : Operand} (b : Nat) {t : TypeId} (s0 : ByteArray) (i1 i2 i3 i4 : Int) (p5 : Option Addr) (l5 c5 : Nat) (s6 : ByteArray)
    (h : Blk w b t #[.string s0, .int .i64 i1, .int .i64 i2, .int .i64 i3, .int .i64 i4, .slice p5 l5 c5, .string s6]) (hgd : op.guard = none) (ho : op.op = .load 24 x) (hx : a.eval x = .pointer (some ⟨b, 0, none⟩)) (hk : wpList Try.prog ops Q rest (a.put op.dst (.agg #[.string s0, .int .i64 i1, .int .i64 i2, .int .i64 i3, .int .i64 i4, .slice p5 l5 c5, .string s6])) w) : wpList Try.prog ops Q (op :: rest) a w :=
  wpList_plain hgd fun _ hK => by
    have k0 : w.cell? ⟨b, 0, none⟩ = some (.string s0) := h.cell 0
    have k1 : w.cell? ⟨b, 1, none⟩ = some (.int .i64 i1) := h.cell 1
    have k2 : w.cell? ⟨b, 2, none⟩ = some (.int .i64 i2) := h.cell 2
    have k3 : w.cell? ⟨b, 3, none⟩ = some (.int .i64 i3) := h.cell 3
    have k4 : w.cell? ⟨b, 4, none⟩ = some (.int .i64 i4) := h.cell 4
    have k5 : w.cell? ⟨b, 5, none⟩ = some (.slice p5 l5 c5) := h.cell 5
    have k6 : w.cell? ⟨b, 6, none⟩ = some (.string s6) := h.cell 6
    unfold Oper.wp execOp
    simp only [ho, hx]
    simp [go_sem, k0, k1, k2, k3, k4, k5, k6]
    exact hK _ _ hk
end Go.Proofs.Ytbfbaofjkefmmaa
