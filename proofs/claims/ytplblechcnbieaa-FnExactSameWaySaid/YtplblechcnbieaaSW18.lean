/-
  Texts of the proof, one behind the other: WyA, BuP.
-/
import Derived.Test.YtplblechcnbieaaShelf
import Derived.Deep.WholeRow
import Derived.StillTailTactics
import Derived.Test.YtplblechcnbieaaSW16
import Derived.Test.YtplblechcnbieaaSW17

/-
  Ways: an anchor's place and a row of letters; as data, in memory, of one's own, that came in.
-/
namespace Go.Proofs.Ytplblechcnbieaa
open Go.RowKit Go.ChangeShapes
set_option linter.unusedVariables false

/-- A way as data. -/
structure Wy where
  anchor : Int
  path : List Ct
/-- A way as a value, its row being told. -/
def wyV (y : Wy) (p : Value) : Value := .agg #[.int .i64 y.anchor, p]
/-- A way can be read at a value. -/
def WyAt (w : World) (v : Value) (y : Wy) : Prop := ∃ p, v = wyV y p ∧ AtS certKd w p y.path
theorem WyAt.below {w w' : World} {v : Value} {y : Wy} (h : WyAt w v y) (hb : Below w.heap.size w w') : WyAt w' v y := by
  obtain ⟨p, hv, h1⟩ := h
  exact ⟨p, hv, h1.below hb⟩
theorem WyAt.shape {w : World} {v : Value} {y : Wy} (h : WyAt w v y) : ∃ a n c, n = y.path.length ∧ v = .agg #[.int .i64 y.anchor, .slice a n c] := by
  obtain ⟨p, hv, h1⟩ := h
  obtain ⟨a, c, hp⟩ := h1.shape
  exact ⟨a, _, c, rfl, by rw [hv, hp]; rfl⟩
theorem WyAt.row {w : World} {y : Wy} {a : Option Addr} {n c : Nat} {z : Int} (h : WyAt w (.agg #[.int .i64 z, .slice a n c]) y) : AtS certKd w (.slice a n c) y.path := by
  obtain ⟨p, hv, h1⟩ := h
  injection hv with hv
  injection hv with hv
  injection hv with _ hv
  injection hv with hv _
  rw [hv]
  exact h1
/-- A way that came in. -/
def ArgY (B : Nat) (w : World) (v : Value) (y : Wy) : Prop := ∃ a c, v = .agg #[.int .i64 y.anchor, .slice a y.path.length c] ∧ ArgM B w (.slice a y.path.length c) y.path
theorem ArgY.below {B : Nat} {w w' : World} {v : Value} {y : Wy} (h : ArgY B w v y) (hb : Below B w w') {B' : Nat} (hB : B ≤ B') : ArgY B' w' v y := by
  obtain ⟨a, c, hv, h1⟩ := h
  exact ⟨a, c, hv, h1.below hb hB⟩
/-- Numbers that a machine's word holds. -/
def WdY (y : Wy) : Prop := (∀ c ∈ y.path, WdC c) ∧ y.path.length ≤ 9223372036854775807
theorem cellsWay : Try.prog.cellsOf 24 = 2 := by kernel_rfl
theorem cellsRowC : Try.prog.cellsOf 22 = 1 := by kernel_rfl
set_option maxRecDepth 100000 in
theorem way_of_trod {H : Type} {enc : TypeId × Value → H} {W : World} {fuel : Nat} {cs : List Value} {x : DataW H × List MemPlace} (h : DataW.trod enc Try.prog W 0 (fun _ => true) true fuel 24 cs = some x) :
    ∃ y : Wy, ArgY W.heap.size W (.agg cs.toArray) y ∧ WdY y := by
  obtain ⟨xs, m, rfl, hx, hl, hxl, hall⟩ := DataW.trod_struct Try.underlying24 h
  rw [cellsWay] at hl
  obtain ⟨x0, x1, rfl⟩ : ∃ x0 x1, xs = [x0, x1] := by
    match xs, hxl with
    | [x0, x1], _ => exact ⟨x0, x1, rfl⟩
  have f0 := hall 0 _ rfl
  change DataW.trod _ _ _ _ _ _ _ 3 ((cs.drop 0).take (Try.prog.cellsOf 3)) = some x0 at f0
  rw [cI] at f0
  obtain ⟨v0, h0, _, w0⟩ := DataW.trod_int Try.underlying3 f0
  have g0 := take_one h0
  have f1 := hall 1 _ rfl
  change DataW.trod _ _ _ _ _ _ _ 22 ((cs.drop 1).take (Try.prog.cellsOf 22)) = some x1 at f1
  rw [cellsRowC] at f1
  obtain ⟨a1, c1, l1, h1, m1, w1, r1⟩ := certs_in f1
  have g1 := take_one h1
  have hcs : cs = [.int .i64 v0, .slice a1 l1.length c1] := by
    match cs, hl with
    | [y0, y1], _ =>
      simp at g0 g1
      rw [g0, g1]
  unfold maxLen at m1
  exact ⟨⟨v0, l1⟩, ⟨a1, c1, by rw [hcs], r1⟩, w1, m1⟩
end Go.Proofs.Ytplblechcnbieaa

/-
  A Builder: what is written into it, and that it stays.
-/
namespace Go.Proofs.Ytplblechcnbieaa
open Go.RowKit
set_option linter.unusedVariables false

def Try.lays166_ren : Go.Shelf.Ren := ⟨fun | 166 => 18 | 240 => 33 | 276 => 60 | n => n, fun | 0 => 0 | 3 => 3 | 4 => 4 | 5 => 5 | 9 => 9 | 20 => 20 | 37 => 46 | 70 => 45 | 72 => 48 | 75 => 50 | 80 => 53 | 164 => 84 | n => n, fun | n => n⟩
set_option maxRecDepth 100000 in
theorem Try.lays166 : Go.Proofs.Lays.n166 Try.prog Try.lays166_ren := {
  mixed := by kernel_rfl
  f166 := Try.func18.trans (congrArg some (by kernel_rfl))
  f240 := Try.func33.trans (congrArg some (by kernel_rfl))
  f276 := Try.func60.trans (congrArg some (by kernel_rfl))
  t0 := Try.underlying0
  a0 := Try.isAgg0
  z0 := Try.sizeOf0
  v0 := Try.zeroValue0
  t3 := Try.underlying3
  a3 := Try.isAgg3
  z3 := Try.sizeOf3
  v3 := Try.zeroValue3
  t4 := Try.underlying4
  a4 := Try.isAgg4
  z4 := Try.sizeOf4
  v4 := Try.zeroValue4
  t9 := Try.underlying9
  a9 := Try.isAgg9
  z9 := Try.sizeOf9
  v9 := Try.zeroValue9
  t20 := Try.underlying20
  a20 := Try.isAgg20
  z20 := Try.sizeOf20
  v20 := Try.zeroValue20
  t37 := Try.underlying46
  a37 := Try.isAgg46
  z37 := Try.sizeOf46
  v37 := Try.zeroValue46
  t70 := Try.underlying45
  a70 := Try.isAgg45
  z70 := Try.sizeOf45
  v70 := Try.zeroValue45
  t72 := Try.underlying48
  a72 := Try.isAgg48
  z72 := Try.sizeOf48
  v72 := Try.zeroValue48
  t75 := Try.underlying50
  a75 := Try.isAgg50
  z75 := Try.sizeOf50
  v75 := Try.zeroValue50
  t164 := Try.underlying84
  a164 := Try.isAgg84
  z164 := Try.sizeOf84
  v164 := Try.zeroValue84 }
theorem Try.Builder_Extra_166 : Builder.Extra Try.prog Try.lays166_ren := {
  sizeBuilder := by kernel_rfl
  liesBuilder := by kernel_rfl
  t5 := Try.underlying5
  a5 := Try.isAgg5
  z5 := Try.sizeOf5
  v5 := Try.zeroValue5
  infoByte := by kernel_rfl
  cellsByte := by kernel_rfl
  sizeByte := by kernel_rfl
  neB5 := by decide }
theorem writeS (B b : Nat) (bs : List Value) (s : ByteArray) (w : World) (h : Lib.IsBuilder 48 5 B b bs w) (hlen : bs.length + s.size ≤ 140737488355328) (hBw : B ≤ w.heap.size) :
    Calls Try.prog 18 #[.pointer (some ⟨b, 0, none⟩), .string s] w fun e w' => e = .returned (.tuple #[.int .i64 s.size, .nilIface]) ∧ (Lib.BuilderAt 48 5 B b (.pointer (some ⟨b, 0, none⟩)) (bs ++ Lib.strCells s) w' ∧ Below B w w') :=
  Any.Builder_WriteString Try.lays166 Try.Builder_Extra_166 B b bs s w h hlen hBw
theorem ownsRow_stays {w w' : World} {base : Nat} {e : TypeId} {size : Nat} {v : Value} {n : Nat} {xs : List Value} (h : w.ownsRow base e size v n xs) (hb : Below w.heap.size w w') : w'.ownsRow base e size v n xs := by
  obtain ⟨h1, h2⟩ := h
  refine ⟨h1, ?_⟩
  rcases h2 with h2 | ⟨g, cap, cur, hv, hbg, hg, r⟩
  · exact .inl h2
  · have hlt : g < w.heap.size := by
      rcases Nat.lt_or_ge g w.heap.size with h | h
      · exact h
      · rw [Array.getElem?_eq_none h] at hg; cases hg
    exact .inr ⟨g, cap, cur, hv, hbg, by rw [hb.block g hlt]; exact hg, r⟩
theorem builderAt_stays {w w' : World} {T e : TypeId} {B b : Nat} {p : Value} {bs : List Value} (h : Lib.BuilderAt T e B b p bs w) (hb : Below w.heap.size w w') : Lib.BuilderAt T e B b p bs w' := by
  have hlt := h.lt
  obtain ⟨h1, v, h2, h3, h4⟩ := h
  exact ⟨h1, v, by rw [hb.block b hlt]; exact h2, ownsRow_stays h3 hb, h4⟩
theorem builder_stays {w w' : World} {T e : TypeId} {B b : Nat} {bs : List Value} (h : Lib.IsBuilder T e B b bs w) (hb : Below w.heap.size w w') : Lib.IsBuilder T e B b bs w' := by
  rcases h with h | h
  · exact .inl (builderAt_stays h hb)
  · exact .inr (builderAt_stays h hb)
end Go.Proofs.Ytplblechcnbieaa
