/-
  Texts of the proof, one behind the other: CsB, CsF.
-/
import Derived.Recover
import Derived.Test.YtajbalokcfghbaaC23
import Derived.Test.YtajbalokcfghbaaC24

/-
  The program's letterIn: the letter that an item tells, or none, a reader's panic being caught.
-/
namespace Go.Proofs.Ytajbalokcfghbaa
open Go.RowKit Der
set_option linter.unusedVariables false
set_option linter.unusedSimpArgs false

theorem set13 {V0 : World} {p : Nat} {ta : TypeId} {a0 a1 a2 a3 a4 a5 a6 a7 a8 a9 a10 a11 a12 z0 z1 z2 z3 z4 z5 z6 z7 z8 z9 z10 z11 z12 : Value} (h : Blk V0 p ta #[a0, a1, a2, a3, a4, a5, a6, a7, a8, a9, a10, a11, a12]) : Blk (((((((((((((V0.setCell ⟨p, 0, none⟩ z0).setCell ⟨p, 1, none⟩ z1).setCell ⟨p, 2, none⟩ z2).setCell ⟨p, 3, none⟩ z3).setCell ⟨p, 4, none⟩ z4).setCell ⟨p, 5, none⟩ z5).setCell ⟨p, 6, none⟩ z6).setCell ⟨p, 7, none⟩ z7).setCell ⟨p, 8, none⟩ z8).setCell ⟨p, 9, none⟩ z9).setCell ⟨p, 10, none⟩ z10).setCell ⟨p, 11, none⟩ z11).setCell ⟨p, 12, none⟩ z12) p ta #[z0, z1, z2, z3, z4, z5, z6, z7, z8, z9, z10, z11, z12] := by
  have g0 : Blk _ p ta #[z0, a1, a2, a3, a4, a5, a6, a7, a8, a9, a10, a11, a12] := h.set 0 z0
  have g1 : Blk _ p ta #[z0, z1, a2, a3, a4, a5, a6, a7, a8, a9, a10, a11, a12] := g0.set 1 z1
  have g2 : Blk _ p ta #[z0, z1, z2, a3, a4, a5, a6, a7, a8, a9, a10, a11, a12] := g1.set 2 z2
  have g3 : Blk _ p ta #[z0, z1, z2, z3, a4, a5, a6, a7, a8, a9, a10, a11, a12] := g2.set 3 z3
  have g4 : Blk _ p ta #[z0, z1, z2, z3, z4, a5, a6, a7, a8, a9, a10, a11, a12] := g3.set 4 z4
  have g5 : Blk _ p ta #[z0, z1, z2, z3, z4, z5, a6, a7, a8, a9, a10, a11, a12] := g4.set 5 z5
  have g6 : Blk _ p ta #[z0, z1, z2, z3, z4, z5, z6, a7, a8, a9, a10, a11, a12] := g5.set 6 z6
  have g7 : Blk _ p ta #[z0, z1, z2, z3, z4, z5, z6, z7, a8, a9, a10, a11, a12] := g6.set 7 z7
  have g8 : Blk _ p ta #[z0, z1, z2, z3, z4, z5, z6, z7, z8, a9, a10, a11, a12] := g7.set 8 z8
  have g9 : Blk _ p ta #[z0, z1, z2, z3, z4, z5, z6, z7, z8, z9, a10, a11, a12] := g8.set 9 z9
  have g10 : Blk _ p ta #[z0, z1, z2, z3, z4, z5, z6, z7, z8, z9, z10, a11, a12] := g9.set 10 z10
  have g11 : Blk _ p ta #[z0, z1, z2, z3, z4, z5, z6, z7, z8, z9, z10, z11, a12] := g10.set 11 z11
  have g12 : Blk _ p ta #[z0, z1, z2, z3, z4, z5, z6, z7, z8, z9, z10, z11, z12] := g11.set 12 z12
  exact g12
end Go.Proofs.Ytajbalokcfghbaa

/-
  A letter stored whole into a variable's block, as one step of a walk.
-/
namespace Go.Proofs.Ytajbalokcfghbaa
open Go.RowKit Der
set_option linter.unusedVariables false
set_option linter.unusedSimpArgs false

set_option maxHeartbeats 3200000 in
set_option maxRecDepth 100000 in
theorem step_store13 {ops : Array Oper} {rest : List Oper} {op : Oper} {a : Act} {w : World} {Q : Exit → Act → World → Prop} {x y : Operand} (b : Nat) {t : TypeId} {a0 a1 a2 a3 a4 a5 a6 a7 a8 a9 a10 a11 a12 : Value} (i0 : Int) (s1 s2 : ByteArray) (i3 i4 : Int) (s5 : ByteArray) (b6 : Bool) (i7 i8 : Int) (p9 : Option Addr) (l9 c9 : Nat) (p10 : Option Addr) (l10 c10 : Nat) (p11 : Option Addr) (l11 c11 : Nat) (s12 : ByteArray)
    (h : Blk w b t #[a0, a1, a2, a3, a4, a5, a6, a7, a8, a9, a10, a11, a12]) (hgd : op.guard = none) (hds : op.dst = none) (ho : op.op = .store 29 x y) (hx : a.eval x = .pointer (some ⟨b, 0, none⟩)) (hy : a.eval y = .agg #[.int .i64 i0, .string s1, .string s2, .int .i64 i3, .int .i64 i4, .string s5, .bool b6, .int .i64 i7, .int .i64 i8, .slice p9 l9 c9, .slice p10 l10 c10, .slice p11 l11 c11, .string s12])
    (hk : ∀ W, Out [b] w W → Blk W b t #[.int .i64 i0, .string s1, .string s2, .int .i64 i3, .int .i64 i4, .string s5, .bool b6, .int .i64 i7, .int .i64 i8, .slice p9 l9 c9, .slice p10 l10 c10, .slice p11 l11 c11, .string s12] → wpList Try.prog ops Q rest a W) : wpList Try.prog ops Q (op :: rest) a w :=
  wpList_plain hgd fun _ hK => by
    have c0 : w.cell? ⟨b, 0, none⟩ = some a0 := h.cell 0
    have c1 : w.cell? ⟨b, 1, none⟩ = some a1 := h.cell 1
    have c2 : w.cell? ⟨b, 2, none⟩ = some a2 := h.cell 2
    have c3 : w.cell? ⟨b, 3, none⟩ = some a3 := h.cell 3
    have c4 : w.cell? ⟨b, 4, none⟩ = some a4 := h.cell 4
    have c5 : w.cell? ⟨b, 5, none⟩ = some a5 := h.cell 5
    have c6 : w.cell? ⟨b, 6, none⟩ = some a6 := h.cell 6
    have c7 : w.cell? ⟨b, 7, none⟩ = some a7 := h.cell 7
    have c8 : w.cell? ⟨b, 8, none⟩ = some a8 := h.cell 8
    have c9' : w.cell? ⟨b, 9, none⟩ = some a9 := h.cell 9
    have c10' : w.cell? ⟨b, 10, none⟩ = some a10 := h.cell 10
    have c11' : w.cell? ⟨b, 11, none⟩ = some a11 := h.cell 11
    have c12' : w.cell? ⟨b, 12, none⟩ = some a12 := h.cell 12
    have fz := fun j => h.free j
    unfold Oper.wp execOp
    simp only [ho, hx, hy]
    simp [go_sem, c0, c1, c2, c3, c4, c5, c6, c7, c8, c9', c10', c11', c12', fz]
    generalize hV : World.setCell _ { block := b, off := 12 } (Value.string s12) = V
    have ho1 : Out [b] w V := by
      rw [← hV]
      iterate 13 refine Out.setCell ?_ _ _ (by simp)
      exact Out.refl _ _
    have hB1 : Blk V b t #[.int .i64 i0, .string s1, .string s2, .int .i64 i3, .int .i64 i4, .string s5, .bool b6, .int .i64 i7, .int .i64 i8, .slice p9 l9 c9, .slice p10 l10 c10, .slice p11 l11 c11, .string s12] := by rw [← hV]; exact set13 h
    rw [hds]
    exact hK _ _ (hk V ho1 hB1)
theorem step_build0 {ops : Array Oper} {rest : List Oper} {op : Oper} {a : Act} {w : World} {Q : Exit → Act → World → Prop} (hgd : op.guard = none) (ho : op.op = .build 29 #[]) (hk : wpList Try.prog ops Q rest (a.put op.dst (.agg #[.int .i64 0, .string ⟨#[]⟩, .string ⟨#[]⟩, .int .i64 0, .int .i64 0, .string ⟨#[]⟩, .bool false, .int .i64 0, .int .i64 0, .slice none 0 0, .slice none 0 0, .slice none 0 0, .string ⟨#[]⟩])) w) : wpList Try.prog ops Q (op :: rest) a w :=
  wpList_plain hgd fun _ hK => by
    unfold Oper.wp execOp
    simp only [ho]
    simp [go_sem]
    exact hK _ _ hk
theorem step_assign {P : Program} {ops : Array Oper} {rest : List Oper} {op : Oper} {a : Act} {w : World} {Q : Exit → Act → World → Prop} {v : Value} (hgd : op.guard = none) (ho : op.op = .assign (.const v)) (hk : wpList P ops Q rest (a.put op.dst v) w) : wpList P ops Q (op :: rest) a w :=
  wpList_plain hgd fun _ hK => by
    unfold Oper.wp execOp
    simp only [ho]
    simp [go_sem]
    exact hK _ _ hk
set_option maxHeartbeats 3200000 in
set_option maxRecDepth 100000 in
theorem step_load13 {ops : Array Oper} {rest : List Oper} {op : Oper} {a : Act} {w : World} {Q : Exit → Act → World → Prop} {x : Operand} (b : Nat) {t : TypeId} (i0 : Int) (s1 s2 : ByteArray) (i3 i4 : Int) (s5 : ByteArray) (b6 : Bool) (i7 i8 : Int) (p9 : Option Addr) (l9 c9 : Nat) (p10 : Option Addr) (l10 c10 : Nat) (p11 : Option Addr) (l11 c11 : Nat) (s12 : ByteArray)
    (h : Blk w b t #[.int .i64 i0, .string s1, .string s2, .int .i64 i3, .int .i64 i4, .string s5, .bool b6, .int .i64 i7, .int .i64 i8, .slice p9 l9 c9, .slice p10 l10 c10, .slice p11 l11 c11, .string s12]) (hgd : op.guard = none) (ho : op.op = .load 29 x) (hx : a.eval x = .pointer (some ⟨b, 0, none⟩)) (hk : wpList Try.prog ops Q rest (a.put op.dst (.agg #[.int .i64 i0, .string s1, .string s2, .int .i64 i3, .int .i64 i4, .string s5, .bool b6, .int .i64 i7, .int .i64 i8, .slice p9 l9 c9, .slice p10 l10 c10, .slice p11 l11 c11, .string s12])) w) : wpList Try.prog ops Q (op :: rest) a w :=
  wpList_plain hgd fun _ hK => by
    have k0 : w.cell? ⟨b, 0, none⟩ = some (.int .i64 i0) := h.cell 0
    have k1 : w.cell? ⟨b, 1, none⟩ = some (.string s1) := h.cell 1
    have k2 : w.cell? ⟨b, 2, none⟩ = some (.string s2) := h.cell 2
    have k3 : w.cell? ⟨b, 3, none⟩ = some (.int .i64 i3) := h.cell 3
    have k4 : w.cell? ⟨b, 4, none⟩ = some (.int .i64 i4) := h.cell 4
    have k5 : w.cell? ⟨b, 5, none⟩ = some (.string s5) := h.cell 5
    have k6 : w.cell? ⟨b, 6, none⟩ = some (.bool b6) := h.cell 6
    have k7 : w.cell? ⟨b, 7, none⟩ = some (.int .i64 i7) := h.cell 7
    have k8 : w.cell? ⟨b, 8, none⟩ = some (.int .i64 i8) := h.cell 8
    have k9 : w.cell? ⟨b, 9, none⟩ = some (.slice p9 l9 c9) := h.cell 9
    have k10 : w.cell? ⟨b, 10, none⟩ = some (.slice p10 l10 c10) := h.cell 10
    have k11 : w.cell? ⟨b, 11, none⟩ = some (.slice p11 l11 c11) := h.cell 11
    have k12 : w.cell? ⟨b, 12, none⟩ = some (.string s12) := h.cell 12
    unfold Oper.wp execOp
    simp only [ho, hx]
    simp [go_sem, k0, k1, k2, k3, k4, k5, k6, k7, k8, k9, k10, k11, k12]
    exact hK _ _ hk
end Go.Proofs.Ytajbalokcfghbaa
