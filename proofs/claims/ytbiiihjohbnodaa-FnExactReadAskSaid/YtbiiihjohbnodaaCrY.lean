/-
  The program's reader: numbers, texts.
-/
import Derived.Test.YtbiiihjohbnodaaCrX
namespace Go.Proofs.Ytbiiihjohbnodaa
open Go.RowKit Der
set_option linter.unusedVariables false

def lenV : Value → Nat
  | .slice _ n _ => n
  | _ => 0
theorem Out.aside {g gi : Nat} {a b c : World} (h : Out [g] a b) (h2 : Out [gi] b c) (hg : a.heap.size ≤ gi) : Out [g] a c :=
  ⟨h2.1.trans h.1, h2.2.1.trans h.2.1, h2.2.2.1.trans h.2.2.1, Nat.le_trans h.2.2.2.1 h2.2.2.2.1, fun b hb hn => (h2.2.2.2.2 b (Nat.lt_of_lt_of_le hb h.2.2.2.1) (by simp; omega)).trans (h.2.2.2.2 b hb hn)⟩
theorem Out.grow {g : Nat} {a b c : World} {row : Option Nat} (h : Out [g] a b) (hg : b.grownBy c row) (hr : ∀ q, row = some q → a.heap.size ≤ q) : Out [g] a c :=
  ⟨hg.os.trans h.1, hg.tape.trans h.2.1, hg.output.trans h.2.2.1, Nat.le_trans h.2.2.2.1 hg.size, fun b hb hn => (hg.block b (Nat.lt_of_lt_of_le hb h.2.2.2.1) (fun e => by have := hr b e.symm; omega)).trans (h.2.2.2.2 b hb hn)⟩
theorem Blk.grown {w w' : World} {b : Nat} {t : TypeId} {vs : Array Value} {row : Option Nat} (h : Blk w b t vs) (hg : w.grownBy w' row) (hn : some b ≠ row) : Blk w' b t vs := (hg.block b h.lt hn).trans h
theorem rone_int (w : World) (x : Int) : OwnI (w.alloc (Obj.cells #[.int .i64 x] 3)) w.heap.size (.slice (some ⟨w.heap.size, 0, none⟩) 1 1) [x] :=
  ⟨rfl, .inr ⟨w.heap.size, 1, #[.int .i64 x], rfl, Nat.le_refl _, heap_alloc_new w _, Nat.le_refl _, by decide, rfl, rfl⟩⟩
theorem rone_text (w : World) (x : ByteArray) : OwnT (w.alloc (Obj.cells #[.string x] 9)) w.heap.size (.slice (some ⟨w.heap.size, 0, none⟩) 1 1) [x] :=
  ⟨rfl, .inr ⟨w.heap.size, 1, #[.string x], rfl, Nat.le_refl _, heap_alloc_new w _, Nat.le_refl _, by decide, rfl, rfl⟩⟩
theorem below_out {w0 a b : World} {g : Nat} (h : Below w0.heap.size w0 a) (ho : Out [g] a b) (hg : w0.heap.size ≤ g) : Below w0.heap.size w0 b := h.trans (ho.below (fun x hx => by rw [List.mem_singleton.1 hx]; exact hg) h.size)
theorem belowGrown {w0 a b : World} {row : Option Nat} (h : Below w0.heap.size w0 a) (hg : a.grownBy b row) (hr : ∀ q, row = some q → w0.heap.size ≤ q) : Below w0.heap.size w0 b := h.grown hg h.size hr

theorem num_tail {k : Nat} {y : It (k + 1)} {q q' : List (It (k + 1))} {x : Int} (h : numP (y :: q) = some (x, q')) : ∃ y', y :: q = y' :: q' := by
  obtain ⟨y', _, h1, _⟩ := num_some h
  exact ⟨y', h1⟩
theorem txt_tail {k : Nat} {y : It (k + 1)} {q q' : List (It (k + 1))} {x : ByteArray} (h : txtP 12 (y :: q) = some (x, q')) : ∃ y', y :: q = y' :: q' := by
  obtain ⟨y', h1, _⟩ := txt_some h
  exact ⟨y', h1⟩

/-- What wIn[int] leaves. -/
def NumsPost (w0 W : World) (g n : Nat) (o : Option (List Int × List (It (n + 2)))) (e : Ending) (W' : World) : Prop := Out [g] W W' ∧
  ((o = none ∧ e = misfit) ∨ ∃ (l : List Int) (r : List (It (n + 2))) (v' u : Value), o = some (l, r) ∧ e = .returned u ∧ OwnI W' W.heap.size u l ∧ KcAt w0 (n + 2) v' r ∧ Blk W' g 134 #[v'])
theorem numsP_step {k : Nat} {y : It (k + 1)} {q : List (It (k + 1))} {x : Int} (h : numP (y :: q) = some (x, q)) : numsP (y :: q) = (numsP q).map (x :: ·) := by
  show (match numP (y :: q) with
    | none => none
    | some (v, _) => match numsP q with
      | none => none
      | some l => some (v :: l)) = _
  rw [h]
  cases numsP q <;> rfl
theorem numsP_none {k : Nat} {y : It (k + 1)} {q : List (It (k + 1))} (h : numP (y :: q) = none) : numsP (y :: q) = none := by
  show (match numP (y :: q) with
    | none => none
    | some (v, _) => match numsP q with
      | none => none
      | some l => some (v :: l)) = _
  rw [h]

/-- What [string] leaves. -/
def TxtsPost (w0 W : World) (g n : Nat) (o : Option (List ByteArray × List (It (n + 2)))) (e : Ending) (W' : World) : Prop := Out [g] W W' ∧
  ((o = none ∧ e = misfit) ∨ ∃ (l : List ByteArray) (r : List (It (n + 2))) (v' u : Value), o = some (l, r) ∧ e = .returned u ∧ OwnT W' W.heap.size u l ∧ KcAt w0 (n + 2) v' r ∧ Blk W' g 134 #[v'])
theorem txtsP_step {k : Nat} {y : It (k + 1)} {q : List (It (k + 1))} {x : ByteArray} (h : txtP 12 (y :: q) = some (x, q)) : txtsP (y :: q) = (txtsP q).map (x :: ·) := by
  show (match txtP 12 (y :: q) with
    | none => none
    | some (v, _) => match txtsP q with
      | none => none
      | some l => some (v :: l)) = _
  rw [h]
  cases txtsP q <;> rfl
theorem txtsP_none {k : Nat} {y : It (k + 1)} {q : List (It (k + 1))} (h : txtP 12 (y :: q) = none) : txtsP (y :: q) = none := by
  show (match txtP 12 (y :: q) with
    | none => none
    | some (v, _) => match txtsP q with
      | none => none
      | some l => some (v :: l)) = _
  rw [h]
end Go.Proofs.Ytbiiihjohbnodaa
