/-
  The program's powers by a modulus: powerModulo, PowMod.
-/
import Derived.Test.YtfepknjdehannaaBitI
import Derived.Test.YtfepknjdehannaaMmI
import Derived.Maps.AppendAt
namespace Go.Proofs.Ytfepknjdehannaa
open Go Go.RowKit Go.Shelf
attribute [local go_sem] Oper.semAt_some

/-- A list can be read at a value, and lies in none of the blocks from lo up to C. -/
def IntOut (lo C : Nat) (W : World) (v : Value) (l : List Int) : Prop :=
  ∃ ao cap, v = .slice ao l.length cap ∧ (0 < l.length → ∃ g, ao = some ⟨g, 0, none⟩ ∧ g < W.heap.size ∧ (g < lo ∨ C ≤ g) ∧ ∀ j (hj : j < l.length), W.cell? ⟨g, j, none⟩ = some (.int .i64 l[j]))
theorem IntOut.at {lo C : Nat} {W : World} {v : Value} {l : List Int} (h : IntOut lo C W v l) : IntAt W v l := by
  obtain ⟨ao, cap, hv, h⟩ := h
  exact ⟨ao, cap, hv, fun hl => by obtain ⟨g, hg, hlt, _, hc⟩ := h hl; exact ⟨g, hg, hlt, hc⟩⟩
theorem IntOut.blocks {lo C : Nat} {W W' : World} {v : Value} {l : List Int} (h : IntOut lo C W v l) (hs : W.heap.size ≤ W'.heap.size) (hb : ∀ g, g < W.heap.size → (g < lo ∨ C ≤ g) → (∃ x, W.cell? ⟨g, 0, none⟩ = some (.int .i64 x)) → W'.heap[g]? = W.heap[g]?) : IntOut lo C W' v l := by
  obtain ⟨ao, cap, hv, h⟩ := h
  refine ⟨ao, cap, hv, fun hl => ?_⟩
  obtain ⟨g, hg, hlt, ho, hc⟩ := h hl
  refine ⟨g, hg, Nat.lt_of_lt_of_le hlt hs, ho, fun j hj => ?_⟩
  rw [World.cell?_of_block (w := W) (a := ⟨g, j, none⟩) (hb g hlt ho ⟨_, hc 0 hl⟩)]
  exact hc j hj
theorem IntOut.of_at {lo C : Nat} {W : World} {v : Value} {l : List Int} (h : IntAt W v l) (hlo : W.heap.size ≤ lo) : IntOut lo C W v l := by
  obtain ⟨ao, cap, hv, h⟩ := h
  exact ⟨ao, cap, hv, fun hl => by obtain ⟨g, hg, hlt, hc⟩ := h hl; exact ⟨g, hg, hlt, .inl (by omega), hc⟩⟩
theorem IntOut.of_own {lo C base : Nat} {W : World} {v : Value} {l : List Int} (h : OwnI W base v l) (hC : C ≤ base) : IntOut lo C W v l := by
  obtain ⟨ao, cap, hv, hc⟩ := h.at
  refine ⟨ao, cap, hv, fun hl => ?_⟩
  obtain ⟨g, hg, hlt, hcs⟩ := hc hl
  exact ⟨g, hg, hlt, .inr (by have := (h.block_lt (g := g) (by rw [hv, hg]; rfl)).1; omega), hcs⟩

/-- What the loop over the bits of an exponent holds between two rounds. -/
structure Stp (w : World) (Bp Bs Bm lo C : Nat) (vm vp vs : Value) (lp ls : List Int) (W : World) : Prop where
  bp : Boxed W Bp 44 vp
  bs : Boxed W Bs 44 vs
  bm : Boxed W Bm 44 vm
  op : OwnI W w.heap.size vp lp
  np : ∀ g, vp.ownBlock = some g → g < lo ∨ C ≤ g
  is : IntOut lo C W vs ls
  below : Below w.heap.size w W
theorem boxed_not_int {W : World} {B g : Nat} {t : TypeId} {ao : Option Addr} {n c : Nat} (h : Boxed W B t (.slice ao n c)) (hi : ∃ x, W.cell? ⟨g, 0, none⟩ = some (.int .i64 x)) : g ≠ B := by
  rintro rfl
  obtain ⟨x, hx⟩ := hi
  rw [h.cell] at hx
  cases hx
theorem Stp.stays {w : World} {Bp Bs Bm lo C : Nat} {vm vp vs : Value} {lp ls : List Int} {W W' : World} (h : Stp w Bp Bs Bm lo C vm vp vs lp ls W) (hb : Below W.heap.size W W') : Stp w Bp Bs Bm lo C vm vp vs lp ls W' :=
  ⟨(hb.block _ h.bp.lt).trans h.bp, (hb.block _ h.bs.lt).trans h.bs, (hb.block _ h.bm.lt).trans h.bm, h.op.stays hb, h.np, h.is.blocks hb.size (fun g hg _ _ => hb.block g hg), h.below.trans (hb.mono h.below.size)⟩
theorem Stp.kept {w : World} {Bp Bs Bm lo C : Nat} {vm vp vs : Value} {lp ls : List Int} {W W' : World} {row : Option Nat} (h : Stp w Bp Bs Bm lo C vm vp vs lp ls W) (hg : W.grownBy W' row) (hr : ∀ r, row = some r → lo ≤ r ∧ r < C)
    (h1 : Bp < lo) (h2 : Bs < lo) (h3 : Bm < lo) (hlo : w.heap.size ≤ lo) : Stp w Bp Bs Bm lo C vm vp vs lp ls W' := by
  have hne : ∀ k, (k < lo ∨ C ≤ k) → some k ≠ row := fun k hk e => by have := hr k e.symm; omega
  exact ⟨h.bp.kept hg (hne _ (.inl h1)), h.bs.kept hg (hne _ (.inl h2)), h.bm.kept hg (hne _ (.inl h3)), h.op.same (fun g e => hg.block g (h.op.block_lt e).2 (hne g (h.np g e))), h.np, h.is.blocks hg.size (fun g hl ho _ => hg.block g hl (hne g ho)), h.below.grown hg h.below.size (fun k e => by have := hr k e; omega)⟩
theorem set_other {W : World} {B g : Nat} (v : Value) (h : g ≠ B) : (W.setCell ⟨B, 0, none⟩ v).heap[g]? = W.heap[g]? := Below.heap_setCell _ _ _ _ h
theorem Stp.setP {w : World} {Bp Bs Bm lo C b : Nat} {vm vp vs v : Value} {lp ls l : List Int} {W : World} (h : Stp w Bp Bs Bm lo C vm vp vs lp ls W) (hps : Bs ≠ Bp) (hpm : Bm ≠ Bp) (ho : OwnI W b v l) (hb : C ≤ b) (hwb : w.heap.size ≤ b) (hwp : w.heap.size ≤ Bp) (hvp : ∃ ao n c, vp = .slice ao n c) :
    Stp w Bp Bs Bm lo C vm v vs l ls (W.setCell ⟨Bp, 0, none⟩ v) := by
  obtain ⟨ao, n, c, rfl⟩ := hvp
  refine ⟨h.bp.set v, (set_other _ hps).trans h.bs, (set_other _ hpm).trans h.bm, (ho.base hwb).same (fun g e => set_other _ (fun e' => h.bp.not_row (by decide) ho (by rw [e, e']))), fun g e => .inr (by have := (ho.block_lt e).1; omega), h.is.blocks (by simp [World.setCell]) (fun g _ _ hi => set_other _ (boxed_not_int h.bp hi)), h.below.setCell (p := ⟨Bp, 0, none⟩) hwp v⟩
theorem Stp.setS {w : World} {Bp Bs Bm lo C b : Nat} {vm vp vs v : Value} {lp ls l : List Int} {W : World} (h : Stp w Bp Bs Bm lo C vm vp vs lp ls W) (hps : Bp ≠ Bs) (hpm : Bm ≠ Bs) (ho : OwnI W b v l) (hb : C ≤ b) (hws : w.heap.size ≤ Bs) (hvs : ∃ ao n c, vs = .slice ao n c) :
    Stp w Bp Bs Bm lo C vm vp v lp l (W.setCell ⟨Bs, 0, none⟩ v) := by
  obtain ⟨ao, n, c, rfl⟩ := hvs
  refine ⟨(set_other _ hps).trans h.bp, h.bs.set v, (set_other _ hpm).trans h.bm, h.op.same (fun g e => set_other _ (fun e' => h.bs.not_row (by decide) h.op (by rw [e, e']))), h.np, (IntOut.of_own ho hb).blocks (by simp [World.setCell]) (fun g _ _ hi => set_other _ (boxed_not_int h.bs hi)), h.below.setCell (p := ⟨Bs, 0, none⟩) hws v⟩

/-- The invariant. -/
def HoldsP (w : World) (Bp Bs Bm lo : Nat) (vm : Value) (a m : Int) (C : Nat) (pre : List Int) (W : World) : Prop :=
  ∃ po pn pc so sn sc P S, Stp w Bp Bs Bm lo C vm (.slice po pn pc) (.slice so sn sc) (digs P) (digs S) W ∧ Pw a m pre P S ∧ S < 10000 ^ 40
theorem HoldsP.bides {w : World} {Bp Bs Bm lo : Nat} {vm : Value} {a m : Int} (h1 : Bp < lo) (h2 : Bs < lo) (h3 : Bm < lo) (hlo : w.heap.size ≤ lo) : Bides lo (HoldsP w Bp Bs Bm lo vm a m) := by
  rintro C s A A' row ⟨po, pn, pc, so, sn, sc, P, S, h, hp⟩ hg hr
  exact ⟨po, pn, pc, so, sn, sc, P, S, h.kept hg hr h1 h2 h3 hlo, hp⟩
end Go.Proofs.Ytfepknjdehannaa
