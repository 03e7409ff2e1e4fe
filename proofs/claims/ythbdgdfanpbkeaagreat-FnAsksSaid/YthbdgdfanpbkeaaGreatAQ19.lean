/-
  Texts of the proof.
-/
import Derived.Test.YthbdgdfanpbkeaaGreatChecked
import Derived.WalkKit
import Derived.WalkSpells
import Derived.WalkLawsBesides
import Derived.Handy
import Derived.Laws.BitsAllLaws
import Derived.Laws.Rows
import Derived.Laws.Tables
import Derived.Deep.MidRow
import Derived.Deep.RegionHeld3
import Derived.Laws.CopyOwn
import Derived.Laws.ResultCell
import Derived.Lib.LaidTab
import Derived.Deep.QuietTactic
import Derived.Lib.AppendIntMem
import Derived.Test.YthbdgdfanpbkeaaGreatAQ18
set_option maxHeartbeats 25600000
namespace Go.Proofs.YthbdgdfanpbkeaaGreat
open Go.RowKit
theorem or_rotr (x k : Nat) (hx : x < 4294967296) : bits .or .u32 ((x : Int) / 2 ^ k) ((x : Int) * 2 ^ (32 - k) % 4294967296) = (rotr k x : Nat) := by
 have h := u32_or_nat (x / 2 ^ k) (x * 2 ^ (32 - k) % 4294967296) (div_lt32 k hx) (Nat.mod_lt _ (by decide))
 have e1 : ((x / 2 ^ k : Nat) : Int) = (x : Int) / 2 ^ k := by simp
 have e2 : ((x * 2 ^ (32 - k) % 4294967296 : Nat) : Int) = (x : Int) * 2 ^ (32 - k) % 4294967296 := by simp
 rw [e1, e2] at h
 exact h
theorem turn_any (x k : Nat) (w : World) (hx : x < 4294967296) (hk : 0 < k) (hk2 : k < 32) : Calls Tryz.prog 129 #[.int .u32 x, .int .u64 k] w fun e w' => e = .returned (.int .u32 (rotr k x : Nat)) /\ w = w' := by
 have ho := or_rotr x k hx
 go_enter Tryz.func129, Tryz.ntmps129
 go_wp2
 go_ret
 exact ⟨rfl, rfl⟩
def arrN (n : Nat) (f : Nat -> Nat) : Array Value := ((List.range n).map fun j => Value.int .u32 ((f j : Nat) : Int)).toArray
theorem arrN_size (n : Nat) (f : Nat -> Nat) : (arrN n f).size = n := by simp [arrN]
theorem arrN_get (n : Nat) (f : Nat -> Nat) (j : Nat) (h : j < n) : (arrN n f)[j]? = some (.int .u32 ((f j : Nat) : Int)) := by
 simp [arrN, h]
theorem arrN_congr {n : Nat} {f g : Nat -> Nat} (h : ∀ j, j < n -> f j = g j) : arrN n f = arrN n g := by
 unfold arrN
 congr 1
 apply List.map_congr_left
 intro j hj
 rw [h j (List.mem_range.1 hj)]
theorem arrN_one (n : Nat) (f : Nat -> Nat) : (arrN n f).all (·.oneCell') = true := by
 rw [Array.all_eq_true_iff_forall_mem]
 intro x hx
 simp only [arrN, List.mem_toArray, List.mem_map] at hx
 obtain ⟨j, _, rfl⟩ := hx
 rfl
def upd (f : Nat -> Nat) (k v : Nat) : Nat -> Nat := fun j => if j = k then v else f j
theorem upd_same (f : Nat -> Nat) (k v : Nat) : upd f k v k = v := by simp [upd]
theorem upd_other (f : Nat -> Nat) {k j : Nat} (v : Nat) (h : j ≠ k) : upd f k v j = f j := by simp [upd, h]
theorem arrN_set (n : Nat) (f : Nat -> Nat) (k v : Nat) : (arrN n f).setIfInBounds k (.int .u32 ((v : Nat) : Int)) = arrN n (upd f k v) := by
 apply Array.ext_getElem?
 intro i
 rw [Array.getElem?_setIfInBounds]
 by_cases hi : i < n
 ·rw [arrN_get n (upd f k v) i hi]
  by_cases hk : k = i
  ·subst hk
   rw [if_pos rfl, if_pos (by rw [arrN_size]; exact hi), upd_same]
  ·rw [if_neg hk, arrN_get n f i hi, upd_other f v (fun e => hk e.symm)]
 ·have h1 : (arrN n (upd f k v))[i]? = none := by rw [Array.getElem?_eq_none_iff, arrN_size]; omega
  have h2 : (arrN n f)[i]? = none := by rw [Array.getElem?_eq_none_iff, arrN_size]; omega
  rw [h1, h2]
  split
  ·rw [if_neg (by rw [arrN_size]; omega)]
  ·rfl
def Row (w : World) (b : Nat) (t : TypeId) (n : Nat) (f : Nat -> Nat) : Prop := w.heap[b]? = some (.cells (arrN n f) t (0, 0))
theorem Row.cell {w : World} {b : Nat} {t : TypeId} {n : Nat} {f : Nat -> Nat} (h : Row w b t n f) (j : Nat) (hj : j < n) : w.cell? ⟨b, j, none⟩ = some (.int .u32 ((f j : Nat) : Int)) := by
 rw [cell_of_row w b j _ t _ h, arrN_get n f j hj]
theorem Row.free {w : World} {b : Nat} {t : TypeId} {n : Nat} {f : Nat -> Nat} (h : Row w b t n f) (j : Nat) : w.frozen? ⟨b, j, none⟩ = false := by
 have h' : w.heap[b]? = some (.cells (arrN n f) t (0, 0)) := h
 simp [World.frozen?, h']
theorem Row.set {w : World} {b : Nat} {t : TypeId} {n : Nat} {f : Nat -> Nat} (h : Row w b t n f) (k v : Nat) : Row (w.setCell ⟨b, k, none⟩ (.int .u32 ((v : Nat) : Int))) b t n (upd f k v) := by
 show _ = _
 rw [heap_setCell_same w b k _ t _ h, arrN_set]
theorem Row.other {w : World} {b : Nat} {t : TypeId} {n : Nat} {f : Nat -> Nat} (h : Row w b t n f) (a : Addr) (v : Value) (hb : b ≠ a.block) : Row (w.setCell a v) b t n f := by
 show _ = _
 rw [heap_setCell_other w a b v hb]
 exact h
theorem Row.congr {w : World} {b : Nat} {t : TypeId} {n : Nat} {f g : Nat -> Nat} (h : Row w b t n f) (hfg : ∀ j, j < n -> f j = g j) : Row w b t n g := by
 show _ = _
 rw [<- arrN_congr hfg]
 exact h
theorem Row.load {w : World} {b : Nat} {t : TypeId} {n : Nat} {f : Nat -> Nat} {P : Program} {ty e : TypeId} {m : Nat} (h : Row w b t n f) (hu : P.underlying ty = some (.array m e)) (hi : (P.info? ty).map (·.size) = some n) :
  (loadVar ty ⟨b, 0, none⟩).run P w = .ok (.agg (arrN n f)) w :=
 run_loadVar_row w b t ty (arrN n f) (0, 0) _ h hu rfl (by rw [arrN_size]; exact hi)
theorem Row.store {w : World} {b : Nat} {t : TypeId} {n : Nat} {f g : Nat -> Nat} {P : Program} {ty : TypeId} (h : Row w b t n f) (hi : (P.info? ty).map (·.size) = some n) :
  (storeVar ty ⟨b, 0, none⟩ (.agg (arrN n g))).run P w = .ok () (w.setRow b (arrN n g)) :=
 run_storeVar_row w b t ty (arrN n f) (arrN n g) h (by rw [arrN_size]; exact hi) (by rw [arrN_size, arrN_size]) (arrN_one _ _)
theorem Row.setRow {w : World} {b : Nat} {t : TypeId} {n : Nat} {f g : Nat -> Nat} (h : Row w b t n f) : Row (w.setRow b (arrN n g)) b t n g := setRow_heap w b _ _ t _ h
theorem Row.setRow_other {w : World} {b : Nat} {t : TypeId} {n : Nat} {f : Nat -> Nat} (h : Row w b t n f) (k : Nat) (cs : Array Value) (hk : b ≠ k) : Row (w.setRow k cs) b t n f := by
 show _ = _
 rw [Go.setRow_other w k b cs hk]
 exact h
theorem Row.below {w w' : World} {B b : Nat} {t : TypeId} {n : Nat} {f : Nat -> Nat} (h : Row w b t n f) (hB : Below B w w') (hb : b < B) : Row w' b t n f := by
 show _ = _
 rw [hB.block b hb]
 exact h
theorem Row.new (w : World) (t : TypeId) (n : Nat) (f : Nat -> Nat) : Row (w.alloc (.cells (arrN n f) t)) w.heap.size t n f := by
 show (w.heap.push _)[w.heap.size]? = _
 simp
theorem Row.alloc {w : World} {b : Nat} {t : TypeId} {n : Nat} {f : Nat -> Nat} (h : Row w b t n f) (o : Obj) : Row (w.alloc o) b t n f := by
 have hb : b < w.heap.size := (Array.getElem?_eq_some_iff.1 h).1
 show (w.heap.push o)[b]? = _
 rw [Array.getElem?_push, if_neg (by omega)]
 exact h
theorem sizeA (w : World) (o : Obj) : (w.alloc o).heap.size = w.heap.size + 1 := by
 show (w.heap.push o).size = _
 simp
theorem Row.new1 (w : World) (o : Obj) (t : TypeId) (n : Nat) (f : Nat -> Nat) : Row ((w.alloc o).alloc (.cells (arrN n f) t)) (w.heap.size + 1) t n f := by
 rw [<- sizeA w o]
 exact Row.new _ _ _ _
theorem size_alloc2 (w : World) (o p : Obj) : ((w.alloc o).alloc p).heap.size = w.heap.size + 2 := by rw [sizeA, sizeA]
theorem below2 (w : World) (o p : Obj) : Below w.heap.size w ((w.alloc o).alloc p) := ((Below.refl _ _).alloc (Nat.le_refl _) _).alloc (by rw [sizeA]; omega) _
theorem step_loadRow {P : Program} {ops : Array Oper} {rest : List Oper} {op : Oper} {a : Act} {w : World} {Q : Exit -> Act -> World -> Prop} {x : Operand} (ty e : TypeId) (b n : Nat) {t : TypeId} {f : Nat -> Nat} (h : Row w b t n f) (hgd : op.guard = none) (ho : op.op = .load ty x) (hx : a.eval x = .pointer (some ⟨b, 0, none⟩))
  (hu : P.underlying ty = some (.array n e)) (hi : (P.info? ty).map (·.size) = some n) (hk : wpList P ops Q rest (a.put op.dst (.agg (arrN n f))) w) : wpList P ops Q (op :: rest) a w :=
 wpList_load_mid hgd ty x ho b 0 hx ((List.range n).map fun j => Value.int .u32 ((f j : Nat) : Int)) _ (fun j v hv => by
  rw [Nat.zero_add, cell_of_row w b j _ t _ h]
  simpa [arrN] using hv) hu rfl (by simpa using hi) hk
theorem step_storeRow {P : Program} {ops : Array Oper} {rest : List Oper} {op : Oper} {a : Act} {w : World} {Q : Exit -> Act -> World -> Prop} {x y : Operand} (ty : TypeId) (b n : Nat) {t : TypeId} {f : Nat -> Nat} (g : Nat -> Nat) (h : Row w b t n f) (hgd : op.guard = none) (hds : op.dst = none) (ho : op.op = .store ty x y) (hx : a.eval x = .pointer (some ⟨b, 0, none⟩)) (hy : a.eval y = .agg (arrN n g))
  (hi : (P.info? ty).map (·.size) = some n) (hk : ∀ W, Hid (W = w.setRow b (arrN n g)) -> wpList P ops Q rest a W) : wpList P ops Q (op :: rest) a w :=
 wpList_plain hgd fun _ hK => by
  have hs := Row.store (P := P) (ty := ty) (g := g) h hi
  unfold Oper.wp execOp
  simp only [ho, hx, hy, Instr.storeAt, Instr.sureAddr, Sem.run_bind, Sem.run_pure, Result.andThen_ok, hs]
  have hK' := hK _ _ (hk _ rfl)
  have hp : a.put op.dst undef = a := by rw [hds]; rfl
  rw [<- hp] at hK'
  exact hK'
theorem info64 : (Tryz.prog.info? 146).map (·.size) = some 64 := by kernel_rfl
def stf (s : St) : Nat -> Nat
 | 0 => s.a
 | 1 => s.b
 | 2 => s.c
 | 3 => s.d
 | 4 => s.e
 | 5 => s.f
 | 6 => s.g
 | _ => s.h
end Go.Proofs.YthbdgdfanpbkeaaGreat
