/-
  Texts of the proof.
-/
import Derived.Test.YtjgbmnhoajiabaaGreatDoorChecked
import Derived.WalkKit
import Derived.WalkSpells
import Derived.WalkLawsBesides
import Derived.Handy
import Derived.Laws.BitsAllLaws
import Derived.Laws.Rows
import Derived.Laws.Tables
import Derived.Deep.MidRow
import Derived.Deep.RegionHeld3
import Derived.Laws.CopyOwn
import Derived.Laws.ResultCell
import Derived.Test.YtjgbmnhoajiabaaGreatDoorSQ30
set_option maxRecDepth 100000
namespace Go.Proofs.YtjgbmnhoajiabaaGreatDoor
open Go.RowKit
theorem or_rotr (x k : Nat) (hx : x < 4294967296) : bits .or .u32 ((x : Int) / 2 ^ k) ((x : Int) * 2 ^ (32 - k) % 4294967296) = (rotr k x : Nat) := by
 have h := u32_or_nat (x / 2 ^ k) (x * 2 ^ (32 - k) % 4294967296) (div_lt32 k hx) (Nat.mod_lt _ (by decide))
 have e1 : ((x / 2 ^ k : Nat) : Int) = (x : Int) / 2 ^ k := by simp
 have e2 : ((x * 2 ^ (32 - k) % 4294967296 : Nat) : Int) = (x : Int) * 2 ^ (32 - k) % 4294967296 := by simp
 rw [e1, e2] at h
 exact h
theorem or_rotl (x k : Nat) (hx : x < 4294967296) : bits .or .u32 ((x : Int) * 2 ^ (32 - k) % 4294967296) ((x : Int) / 2 ^ k) = (rotr k x : Nat) := by
 have h := u32_or_nat (x * 2 ^ (32 - k) % 4294967296) (x / 2 ^ k) (Nat.mod_lt _ (by decide)) (div_lt32 k hx)
 have e1 : ((x / 2 ^ k : Nat) : Int) = (x : Int) / 2 ^ k := by simp
 have e2 : ((x * 2 ^ (32 - k) % 4294967296 : Nat) : Int) = (x : Int) * 2 ^ (32 - k) % 4294967296 := by simp
 rw [e1, e2, Nat.or_comm] at h
 exact h
set_option maxHeartbeats 400000 in
theorem turn_any (x k : Nat) (w : World) (hx : x < 4294967296) (hk : 0 < k) (hk2 : k < 32) : Calls Tryz.prog 332 #[.int .u32 x, .int .u64 k] w fun e w' => e = .returned (.int .u32 (rotr k x : Nat)) /\ w = w' := by
 have ho := or_rotr x k hx
 go_enter Tryz.func332, Tryz.ntmps332
 go_wp2
 go_ret
 exact ⟨rfl, rfl⟩
theorem low5 : ∀ k : Nat, k < 32 -> 0 < k -> bits .and .u64 (IntKind.u64.wrap (-(k : Int))) 31 = ((32 - k : Nat) : Int) := by decide
set_option maxHeartbeats 400000 in
theorem rotateLeft_any (x k : Nat) (w : World) (hx : x < 4294967296) (hk : 0 < k) (hk2 : k < 32) : Calls Tryz.prog 360 #[.int .u32 x, .int .i64 (-(k : Int))] w fun e w' => e = .returned (.int .u32 (rotr k x : Nat)) /\ w = w' := by
 have ho := or_rotl x k hx
 have h5 := low5 k hk2 hk
 obtain ⟨j, hj⟩ : ∃ j : Nat, j = 32 - k := ⟨_, rfl⟩
 have hj2 : 32 - j = k := by omega
 have hj3 : j < 32 := by omega
 rw [<- hj] at h5 ho
 have hs : IntKind.u64.wrap (32 - (j : Int)) = (k : Int) := by rw [IntWalk.u64_in _ (by omega)]; omega
 clear hj
 go_enter Tryz.func360, Tryz.ntmps360
 go_wp2
 go_ret
 exact ⟨rfl, rfl⟩
set_option maxHeartbeats 400000 in
theorem turned_any (x k : Nat) (w : World) (hx : x < 4294967296) (hk : 0 < k) (hk2 : k < 32) : Calls Tryz.prog 346 #[.int .u32 x, .int .i64 k] w fun e w' => e = .returned (.int .u32 (rotr k x : Nat)) /\ w = w' := by
 go_enter Tryz.func346, Tryz.ntmps346
 go_wp2_with (go_at_call 360; refine (rotateLeft_any x k _ hx hk hk2).mono ?_; rintro e w1 ⟨rfl, rfl⟩)
 go_ret
 exact ⟨rfl, rfl⟩
def arrN (n : Nat) (f : Nat -> Nat) : Array Value := ((List.range n).map fun j => Value.int .u32 ((f j : Nat) : Int)).toArray
theorem arrN_size (n : Nat) (f : Nat -> Nat) : (arrN n f).size = n := by simp [arrN]
theorem arrN_get (n : Nat) (f : Nat -> Nat) (j : Nat) (h : j < n) : (arrN n f)[j]? = some (.int .u32 ((f j : Nat) : Int)) := by
 simp [arrN, h]
theorem arrN_congr {n : Nat} {f g : Nat -> Nat} (h : ∀ j, j < n -> f j = g j) : arrN n f = arrN n g := by
 unfold arrN
 congr 1
 apply List.map_congr_left
 intro j hj
 rw [h j (List.mem_range.1 hj)]
theorem arrN_one (n : Nat) (f : Nat -> Nat) : (arrN n f).all (·.oneCell') = true := by
 rw [Array.all_eq_true_iff_forall_mem]
 intro x hx
 simp only [arrN, List.mem_toArray, List.mem_map] at hx
 obtain ⟨j, _, rfl⟩ := hx
 rfl
def upd (f : Nat -> Nat) (k v : Nat) : Nat -> Nat := fun j => if j = k then v else f j
theorem upd_same (f : Nat -> Nat) (k v : Nat) : upd f k v k = v := by simp [upd]
theorem upd_other (f : Nat -> Nat) {k j : Nat} (v : Nat) (h : j ≠ k) : upd f k v j = f j := by simp [upd, h]
theorem arrN_set (n : Nat) (f : Nat -> Nat) (k v : Nat) : (arrN n f).setIfInBounds k (.int .u32 ((v : Nat) : Int)) = arrN n (upd f k v) := by
 apply Array.ext_getElem?
 intro i
 rw [Array.getElem?_setIfInBounds]
 by_cases hi : i < n
 ·rw [arrN_get n (upd f k v) i hi]
  by_cases hk : k = i
  ·subst hk
   rw [if_pos rfl, if_pos (by rw [arrN_size]; exact hi), upd_same]
  ·rw [if_neg hk, arrN_get n f i hi, upd_other f v (fun e => hk e.symm)]
 ·have h1 : (arrN n (upd f k v))[i]? = none := by rw [Array.getElem?_eq_none_iff, arrN_size]; omega
  have h2 : (arrN n f)[i]? = none := by rw [Array.getElem?_eq_none_iff, arrN_size]; omega
  rw [h1, h2]
  split
  ·rw [if_neg (by rw [arrN_size]; omega)]
  ·rfl
def Row (w : World) (b : Nat) (t : TypeId) (n : Nat) (f : Nat -> Nat) : Prop := w.heap[b]? = some (.cells (arrN n f) t (0, 0))
theorem Row.cell {w : World} {b : Nat} {t : TypeId} {n : Nat} {f : Nat -> Nat} (h : Row w b t n f) (j : Nat) (hj : j < n) : w.cell? ⟨b, j, none⟩ = some (.int .u32 ((f j : Nat) : Int)) := by
 rw [cell_of_row w b j _ t _ h, arrN_get n f j hj]
theorem Row.free {w : World} {b : Nat} {t : TypeId} {n : Nat} {f : Nat -> Nat} (h : Row w b t n f) (j : Nat) : w.frozen? ⟨b, j, none⟩ = false := by
 have h' : w.heap[b]? = some (.cells (arrN n f) t (0, 0)) := h
 simp [World.frozen?, h']
theorem Row.set {w : World} {b : Nat} {t : TypeId} {n : Nat} {f : Nat -> Nat} (h : Row w b t n f) (k v : Nat) : Row (w.setCell ⟨b, k, none⟩ (.int .u32 ((v : Nat) : Int))) b t n (upd f k v) := by
 show _ = _
 rw [heap_setCell_same w b k _ t _ h, arrN_set]
theorem Row.other {w : World} {b : Nat} {t : TypeId} {n : Nat} {f : Nat -> Nat} (h : Row w b t n f) (a : Addr) (v : Value) (hb : b ≠ a.block) : Row (w.setCell a v) b t n f := by
 show _ = _
 rw [heap_setCell_other w a b v hb]
 exact h
theorem Row.congr {w : World} {b : Nat} {t : TypeId} {n : Nat} {f g : Nat -> Nat} (h : Row w b t n f) (hfg : ∀ j, j < n -> f j = g j) : Row w b t n g := by
 show _ = _
 rw [<- arrN_congr hfg]
 exact h
theorem Row.load {w : World} {b : Nat} {t : TypeId} {n : Nat} {f : Nat -> Nat} {P : Program} {ty e : TypeId} {m : Nat} (h : Row w b t n f) (hu : P.underlying ty = some (.array m e)) (hi : (P.info? ty).map (·.size) = some n) :
  (loadVar ty ⟨b, 0, none⟩).run P w = .ok (.agg (arrN n f)) w :=
 run_loadVar_row w b t ty (arrN n f) (0, 0) _ h hu rfl (by rw [arrN_size]; exact hi)
theorem Row.store {w : World} {b : Nat} {t : TypeId} {n : Nat} {f g : Nat -> Nat} {P : Program} {ty : TypeId} (h : Row w b t n f) (hi : (P.info? ty).map (·.size) = some n) :
  (storeVar ty ⟨b, 0, none⟩ (.agg (arrN n g))).run P w = .ok () (w.setRow b (arrN n g)) :=
 run_storeVar_row w b t ty (arrN n f) (arrN n g) h (by rw [arrN_size]; exact hi) (by rw [arrN_size, arrN_size]) (arrN_one _ _)
theorem Row.setRow {w : World} {b : Nat} {t : TypeId} {n : Nat} {f g : Nat -> Nat} (h : Row w b t n f) : Row (w.setRow b (arrN n g)) b t n g := setRow_heap w b _ _ t _ h
theorem Row.setRow_other {w : World} {b : Nat} {t : TypeId} {n : Nat} {f : Nat -> Nat} (h : Row w b t n f) (k : Nat) (cs : Array Value) (hk : b ≠ k) : Row (w.setRow k cs) b t n f := by
 show _ = _
 rw [Go.setRow_other w k b cs hk]
 exact h
theorem Row.below {w w' : World} {B b : Nat} {t : TypeId} {n : Nat} {f : Nat -> Nat} (h : Row w b t n f) (hB : Below B w w') (hb : b < B) : Row w' b t n f := by
 show _ = _
 rw [hB.block b hb]
 exact h
theorem Row.new (w : World) (t : TypeId) (n : Nat) (f : Nat -> Nat) : Row (w.alloc (.cells (arrN n f) t)) w.heap.size t n f := by
 show (w.heap.push _)[w.heap.size]? = _
 simp
theorem Row.alloc {w : World} {b : Nat} {t : TypeId} {n : Nat} {f : Nat -> Nat} (h : Row w b t n f) (o : Obj) : Row (w.alloc o) b t n f := by
 have hb : b < w.heap.size := (Array.getElem?_eq_some_iff.1 h).1
 show (w.heap.push o)[b]? = _
 rw [Array.getElem?_push, if_neg (by omega)]
 exact h
theorem sizeA (w : World) (o : Obj) : (w.alloc o).heap.size = w.heap.size + 1 := by
 show (w.heap.push o).size = _
 simp
theorem Row.new1 (w : World) (o : Obj) (t : TypeId) (n : Nat) (f : Nat -> Nat) : Row ((w.alloc o).alloc (.cells (arrN n f) t)) (w.heap.size + 1) t n f := by
 rw [<- sizeA w o]
 exact Row.new _ _ _ _
theorem size_alloc2 (w : World) (o p : Obj) : ((w.alloc o).alloc p).heap.size = w.heap.size + 2 := by rw [sizeA, sizeA]
theorem below2 (w : World) (o p : Obj) : Below w.heap.size w ((w.alloc o).alloc p) := ((Below.refl _ _).alloc (Nat.le_refl _) _).alloc (by rw [sizeA]; omega) _
theorem step_loadRow {P : Program} {ops : Array Oper} {rest : List Oper} {op : Oper} {a : Act} {w : World} {Q : Exit -> Act -> World -> Prop} {x : Operand} (ty e : TypeId) (b n : Nat) {t : TypeId} {f : Nat -> Nat} (h : Row w b t n f) (hgd : op.guard = none) (ho : op.op = .load ty x) (hx : a.eval x = .pointer (some ⟨b, 0, none⟩))
  (hu : P.underlying ty = some (.array n e)) (hi : (P.info? ty).map (·.size) = some n) (hk : wpList P ops Q rest (a.put op.dst (.agg (arrN n f))) w) : wpList P ops Q (op :: rest) a w :=
 wpList_load_mid hgd ty x ho b 0 hx ((List.range n).map fun j => Value.int .u32 ((f j : Nat) : Int)) _ (fun j v hv => by
  rw [Nat.zero_add, cell_of_row w b j _ t _ h]
  simpa [arrN] using hv) hu rfl (by simpa using hi) hk
theorem step_storeRow {P : Program} {ops : Array Oper} {rest : List Oper} {op : Oper} {a : Act} {w : World} {Q : Exit -> Act -> World -> Prop} {x y : Operand} (ty : TypeId) (b n : Nat) {t : TypeId} {f : Nat -> Nat} (g : Nat -> Nat) (h : Row w b t n f) (hgd : op.guard = none) (hds : op.dst = none) (ho : op.op = .store ty x y) (hx : a.eval x = .pointer (some ⟨b, 0, none⟩)) (hy : a.eval y = .agg (arrN n g))
  (hi : (P.info? ty).map (·.size) = some n) (hk : ∀ W, Hid (W = w.setRow b (arrN n g)) -> wpList P ops Q rest a W) : wpList P ops Q (op :: rest) a w :=
 wpList_plain hgd fun _ hK => by
  have hs := Row.store (P := P) (ty := ty) (g := g) h hi
  unfold Oper.wp execOp
  simp only [ho, hx, hy, Instr.storeAt, Instr.sureAddr, Sem.run_bind, Sem.run_pure, Result.andThen_ok, hs]
  have hK' := hK _ _ (hk _ rfl)
  have hp : a.put op.dst undef = a := by rw [hds]; rfl
  rw [<- hp] at hK'
  exact hK'
def pw (bl : List UInt8) (i j : Nat) : Nat :=
 if 4 * j + 4 <= i then wordOf bl j
 else if i <= 4 * j then 0
 else if i = 4 * j + 1 then (bl.getD (4 * j) 0).toNat
 else if i = 4 * j + 2 then (bl.getD (4 * j) 0).toNat * 256 + (bl.getD (4 * j + 1) 0).toNat
 else (bl.getD (4 * j) 0).toNat * 65536 + (bl.getD (4 * j + 1) 0).toNat * 256 + (bl.getD (4 * j + 2) 0).toNat
theorem pw_zero (bl : List UInt8) (j : Nat) : pw bl 0 j = 0 := by
 unfold pw
 rw [if_neg (by omega), if_pos (by omega)]
theorem pw_other (bl : List UInt8) (i j : Nat) (h : j ≠ i / 4) : pw bl (i + 1) j = pw bl i j := by
 unfold pw
 by_cases h1 : 4 * j + 4 <= i
 ·rw [if_pos (by omega), if_pos h1]
 ·have h2 : i <= 4 * j /\ i + 1 <= 4 * j := by omega
  rw [if_neg (by omega), if_pos h2.2, if_neg h1, if_pos h2.1]
theorem pw_same (bl : List UInt8) (i : Nat) : pw bl (i + 1) (i / 4) = pw bl i (i / 4) % 16777216 * 256 + (bl.getD i 0).toNat := by
 have b0 := (bl.getD (4 * (i / 4)) 0).toNat_lt
 have b1 := (bl.getD (4 * (i / 4) + 1) 0).toNat_lt
 have b2 := (bl.getD (4 * (i / 4) + 2) 0).toNat_lt
 have hc : i = 4 * (i / 4) ∨ i = 4 * (i / 4) + 1 ∨ i = 4 * (i / 4) + 2 ∨ i = 4 * (i / 4) + 3 := by omega
 generalize hq : i / 4 = q at *
 unfold pw wordOf
 rcases hc with h | h | h | h <;> subst h
 ·rw [if_neg (by omega), if_neg (by omega), if_pos rfl, if_neg (by omega), if_pos (by omega)]; omega
 ·rw [if_neg (by omega), if_neg (by omega), if_neg (by omega), if_pos rfl, if_neg (by omega), if_neg (by omega), if_pos rfl]; omega
 ·rw [if_neg (by omega), if_neg (by omega), if_neg (by omega), if_neg (by omega), if_neg (by omega), if_neg (by omega), if_neg (by omega), if_pos rfl]; omega
 ·rw [if_pos (by omega), if_neg (by omega), if_neg (by omega), if_neg (by omega), if_neg (by omega)]; omega
theorem pw_lt (bl : List UInt8) (i j : Nat) : pw bl i j < 4294967296 := by
 have b0 := (bl.getD (4 * j) 0).toNat_lt
 have b1 := (bl.getD (4 * j + 1) 0).toNat_lt
 have b2 := (bl.getD (4 * j + 2) 0).toNat_lt
 have := wordOf_lt bl j
 unfold pw
 repeat' split
 all_goals omega
theorem shl8_or (x b : Nat) (hb : b < 256) : (x % 16777216 * 256) ||| b = x % 16777216 * 256 + b := by
 have := Nat.shiftLeft_add_eq_or_of_lt (b := b) (i := 8) (by simpa using hb) (x % 16777216)
 rw [Nat.shiftLeft_eq] at this
 exact this.symm
theorem info64 : (Tryz.prog.info? 288).map (·.size) = some 64 := by kernel_rfl
theorem or8 (y b : Nat) (hb : b < 256) : bits .or .u32 ((y : Int) * 256 % 4294967296) (b : Int) = ((y % 16777216 * 256 + b : Nat) : Int) := by
 have h := u32_or_nat (y % 16777216 * 256) b (by omega) (by omega)
 rw [shl8_or y b hb] at h
 rw [<- h]
 congr 1
 omega
set_option maxHeartbeats 800000 in
theorem roundWords_any (s : ByteArray) (w : World) (hs : s.size = 64) : Calls Tryz.prog 345 #[.string s] w fun e w' => e = .returned (.agg (arrN 64 (wd s.data.toList))) /\ Below w.heap.size w w' := by
 go_enter Tryz.func345, Tryz.ntmps345
 go_wp2
 go_loopw [8] (fun iv wr => ∃ (i : Nat) (f : Nat -> Nat), i <= 64 /\ iv = .int .i64 i /\ Hid (Row wr (w.heap.size + 1) 288 64 f /\ (∀ j, f j = pw s.data.toList i j) /\ Row wr w.heap.size 288 64 (fun _ => 0) /\ Below w.heap.size w wr)) (fun iv _ => 64 - (intOf iv).toNat)
 case atStart => exact ⟨0, fun _ => 0, Nat.zero_le _, rfl, ⟨Row.new1 w _ _ 64 fun _ => 0, fun j => (pw_zero _ j).symm, (Row.new w _ 64 fun _ => 0).alloc _, below2 _ _ _⟩⟩
 case round =>
  obtain ⟨k, f, hk, rfl, H⟩ := hrel
  by_cases hlt : k < 64
  ·have hb := s[k].toNat_lt
   obtain ⟨q, hq⟩ : ∃ q, k / 4 = q := ⟨_, rfl⟩
   have hqi : (k : Int) / 4 = (q : Int) := by omega
   have hq2 : (k : Int).tdiv 4 = (q : Int) := by rw [Int.tdiv_eq_ediv_of_nonneg (by omega)]; exact hqi
   have hq64 : q < 64 := by omega
   obtain ⟨y, hy⟩ : ∃ y, f q = y := ⟨_, rfl⟩
   have hc := H.out.1.cell q hq64
   have hfr := H.out.1.free q
   rw [hy] at hc
   have hyl : y < 4294967296 := by rw [<- hy, H.out.2.1]; exact pw_lt _ _ _
   have ho := or8 y s[k].toNat hb
   obtain ⟨z, hz⟩ : ∃ z, y % 16777216 * 256 + s[k].toNat = z := ⟨_, rfl⟩
   rw [hz] at ho
   have hk0 : (0 : Int) <= (k : Int) := by omega
   have hk1 : (k : Int) < 64 := by omega
   have hks : (k : Int) < (s.size : Int) := by omega
   have hq0 : (0 : Int) <= (q : Int) := by omega
   have hq1 : (q : Int) < 64 := by omega
   have hwq : IntKind.i64.wrap (q : Int) = (q : Int) := IntWalk.i64_in _ (by omega)
   have H2 : Hid (Row (wr.setCell ⟨w.heap.size + 1, q, none⟩ (.int .u32 (z : Int))).drew (w.heap.size + 1) 288 64 (upd f q z) /\ (∀ j, upd f q z j = pw s.data.toList (k + 1) j) /\ Row (wr.setCell ⟨w.heap.size + 1, q, none⟩ (.int .u32 (z : Int))).drew w.heap.size 288 64 (fun _ => 0) /\ Below w.heap.size w (wr.setCell ⟨w.heap.size + 1, q, none⟩ (.int .u32 (z : Int))).drew) := by
    refine ⟨H.out.1.set q z, fun j => ?_, H.out.2.2.1.other _ _ (show w.heap.size ≠ w.heap.size + 1 by omega), (H.out.2.2.2.setCell (show w.heap.size <= w.heap.size + 1 by omega) _).drew⟩
    by_cases hj : j = q
    ·subst hj
     rw [upd_same, <- hz, <- hy, H.out.2.1, <- hq, pw_same]
     congr 2
     rw [List.getD_eq_getElem?_getD, List.getElem?_eq_getElem (by simpa using (by omega : k < s.size))]
     rfl
    ·rw [upd_other _ _ hj, H.out.2.1, pw_other _ _ _ (by omega)]
   clear H hy hz hq
   go_wp2
   go_region
   go_wp2
   go_roundw
   case rel => exact ⟨k + 1, _, by omega, by go_num, H2⟩
   case measure => simp [intOf]; omega
  ·go_wp2
   go_loopw [25] (fun iv wr => ∃ (i : Nat) (f : Nat -> Nat), i <= 48 /\ iv = .int .i64 i /\ Hid (Row wr (w.heap.size + 1) 288 64 f /\ (∀ j, j < i + 16 -> f j = wd s.data.toList j) /\ Row wr w.heap.size 288 64 (fun _ => 0) /\ Below w.heap.size w wr)) (fun iv _ => 48 - (intOf iv).toNat)
   case atStart =>
    refine ⟨0, f, by omega, rfl, ⟨H.out.1, fun j hj => ?_, H.out.2.2.1, H.out.2.2.2⟩⟩
    rw [H.out.2.1, wd_lo _ (by omega), pw, if_pos (by omega)]
   case round =>
    clear H
    obtain ⟨i, g, hi, rfl, H⟩ := hrel
    by_cases hlt2 : i < 48
    ·have hc14 := H.out.1.cell (i + 14) (by omega)
     have hc1 := H.out.1.cell (i + 1) (by omega)
     have hc9 := H.out.1.cell (i + 9) (by omega)
     have hc0 := H.out.1.cell i (by omega)
     have hfr := H.out.1.free (i + 16)
     have hc16 := H.out.1.cell (i + 16) (by omega)
     rw [H.out.2.1 _ (by omega)] at hc14 hc1 hc9 hc0
     obtain ⟨a, ha⟩ : ∃ a, wd s.data.toList (i + 14) = a := ⟨_, rfl⟩
     obtain ⟨b, hb⟩ : ∃ b, wd s.data.toList (i + 1) = b := ⟨_, rfl⟩
     obtain ⟨c, hc⟩ : ∃ c, wd s.data.toList (i + 9) = c := ⟨_, rfl⟩
     obtain ⟨d, hd⟩ : ∃ d, wd s.data.toList i = d := ⟨_, rfl⟩
     have hal : a < 4294967296 := by rw [<- ha]; exact wd_lt _ _
     have hbl : b < 4294967296 := by rw [<- hb]; exact wd_lt _ _
     have hcl : c < 4294967296 := by rw [<- hc]; exact wd_lt _ _
     have hdl : d < 4294967296 := by rw [<- hd]; exact wd_lt _ _
     rw [ha] at hc14
     rw [hb] at hc1
     rw [hc] at hc9
     rw [hd] at hc0
     obtain ⟨p14, hp14⟩ : ∃ p, i + 14 = p := ⟨_, rfl⟩
     obtain ⟨p1, hp1⟩ : ∃ p, i + 1 = p := ⟨_, rfl⟩
     obtain ⟨p9, hp9⟩ : ∃ p, i + 9 = p := ⟨_, rfl⟩
     obtain ⟨p16, hp16⟩ : ∃ p, i + 16 = p := ⟨_, rfl⟩
     have hw14 : IntKind.i64.wrap ((i : Int) + 14) = (p14 : Int) := by rw [IntWalk.i64_in _ (by omega)]; omega
     have hw1 : IntKind.i64.wrap ((i : Int) + 1) = (p1 : Int) := by rw [IntWalk.i64_in _ (by omega)]; omega
     have hw9 : IntKind.i64.wrap ((i : Int) + 9) = (p9 : Int) := by rw [IntWalk.i64_in _ (by omega)]; omega
     have hw16 : IntKind.i64.wrap ((i : Int) + 16) = (p16 : Int) := by rw [IntWalk.i64_in _ (by omega)]; omega
     have h14 : (p14 : Int) < 64 := by omega
     have h1 : (p1 : Int) < 64 := by omega
     have h9 : (p9 : Int) < 64 := by omega
     have h16 : (p16 : Int) < 64 := by omega
     have h140 : 0 <= (p14 : Int) := by omega
     have h10 : 0 <= (p1 : Int) := by omega
     have h90 : 0 <= (p9 : Int) := by omega
     have h160 : 0 <= (p16 : Int) := by omega
     have hi0 : 0 <= (i : Int) := by omega
     have hi64 : (i : Int) < 64 := by omega
     rw [hp14] at hc14
     rw [hp1] at hc1
     rw [hp9] at hc9
     rw [hp16] at hfr hc16
     have HP : Hid (i + 14 = p14 /\ i + 1 = p1 /\ i + 9 = p9 /\ i + 16 = p16 /\ wd s.data.toList (i + 14) = a /\ wd s.data.toList (i + 1) = b /\ wd s.data.toList (i + 9) = c /\ wd s.data.toList i = d) := ⟨hp14, hp1, hp9, hp16, ha, hb, hc, hd⟩
     clear hp14 hp1 hp9 hp16 ha hb hc hd
     obtain ⟨x1, hx1⟩ : ∃ x, rotr 17 a ^^^ rotr 19 a = x := ⟨_, rfl⟩
     obtain ⟨n, hn⟩ : ∃ x, smS1 a = x := ⟨_, rfl⟩
     obtain ⟨x2, hx2⟩ : ∃ x, rotr 7 b ^^^ rotr 18 b = x := ⟨_, rfl⟩
     obtain ⟨m, hm⟩ : ∃ x, smS0 b = x := ⟨_, rfl⟩
     have hnl : n < 4294967296 := by rw [<- hn]; exact smS1_lt hal
     have hml : m < 4294967296 := by rw [<- hm]; exact smS0_lt hbl
     have hX1 : bits .xor .u32 ((rotr 17 a : Nat) : Int) ((rotr 19 a : Nat) : Int) = (x1 : Int) := by rw [<- hx1]; exact u32_xor_nat _ _ (rotr_lt _ hal) (rotr_lt _ hal)
     have hX2 : bits .xor .u32 (x1 : Int) ((a : Int) / 1024) = (n : Int) := by rw [<- hn, smS1, hx1]; exact u32_xor_nat _ _ (by rw [<- hx1]; exact xor_lt32 (rotr_lt _ hal) (rotr_lt _ hal)) (Nat.lt_of_le_of_lt (Nat.div_le_self _ _) hal)
     have hX3 : bits .xor .u32 ((rotr 7 b : Nat) : Int) ((rotr 18 b : Nat) : Int) = (x2 : Int) := by rw [<- hx2]; exact u32_xor_nat _ _ (rotr_lt _ hbl) (rotr_lt _ hbl)
     have hX4 : bits .xor .u32 (x2 : Int) ((b : Int) / 8) = (m : Int) := by rw [<- hm, smS0, hx2]; exact u32_xor_nat _ _ (by rw [<- hx2]; exact xor_lt32 (rotr_lt _ hbl) (rotr_lt _ hbl)) (Nat.lt_of_le_of_lt (Nat.div_le_self _ _) hbl)
     obtain ⟨s1, hs1⟩ : ∃ x, (n + c) % 4294967296 = x := ⟨_, rfl⟩
     obtain ⟨s2, hs2⟩ : ∃ x, (s1 + m) % 4294967296 = x := ⟨_, rfl⟩
     obtain ⟨z, hz⟩ : ∃ x, (s2 + d) % 4294967296 = x := ⟨_, rfl⟩
     have hW1 : IntKind.u32.wrap ((n : Int) + (c : Int)) = (s1 : Int) := by rw [IntKind.wrap_u32]; omega
     have hW2 : IntKind.u32.wrap ((s1 : Int) + (m : Int)) = (s2 : Int) := by rw [IntKind.wrap_u32]; omega
     have hW3 : IntKind.u32.wrap ((s2 : Int) + (d : Int)) = (z : Int) := by rw [IntKind.wrap_u32]; omega
     have hzw : wd s.data.toList (i + 16) = z := by
      rw [wd_hi, HP.out.2.2.2.2.1, HP.out.2.2.2.2.2.1, HP.out.2.2.2.2.2.2.1, HP.out.2.2.2.2.2.2.2, hn, hm]
      omega
     have H2 : Hid (Row (wr.setCell ⟨w.heap.size + 1, p16, none⟩ (.int .u32 (z : Int))).drew.drew (w.heap.size + 1) 288 64 (upd g p16 z) /\ (∀ j, j < i + 1 + 16 -> upd g p16 z j = wd s.data.toList j) /\ Row (wr.setCell ⟨w.heap.size + 1, p16, none⟩ (.int .u32 (z : Int))).drew.drew w.heap.size 288 64 (fun _ => 0) /\ Below w.heap.size w (wr.setCell ⟨w.heap.size + 1, p16, none⟩ (.int .u32 (z : Int))).drew.drew) := by
      refine ⟨H.out.1.set p16 z, fun j hj => ?_, H.out.2.2.1.other _ _ (show w.heap.size ≠ w.heap.size + 1 by omega), (H.out.2.2.2.setCell (show w.heap.size <= w.heap.size + 1 by omega) _).drew.drew⟩
      have h16 := HP.out.2.2.2.1
      by_cases hj : j = p16
      ·subst hj
       rw [upd_same, <- hzw, h16]
      ·rw [upd_other _ _ hj, H.out.2.1 j (by omega)]
     have HP1 : Hid (i + 1 = p1) := HP.out.2.1
     clear hn hm hx1 hx2 hs1 hs2 hz hzw H HP
     go_wp2_with fail
     go_region
     go_wp2_with fail
     refine (turned_any a 17 _ hal (by decide) (by decide)).mono ?_
     rintro e w1 ⟨rfl, rfl⟩
     go_wp2_with fail
     refine (turned_any a 19 _ hal (by decide) (by decide)).mono ?_
     rintro e w1 ⟨rfl, rfl⟩
     go_wp2_with fail
     refine (turned_any b 7 _ hbl (by decide) (by decide)).mono ?_
     rintro e w1 ⟨rfl, rfl⟩
     go_wp2_with fail
     refine (turned_any b 18 _ hbl (by decide) (by decide)).mono ?_
     rintro e w1 ⟨rfl, rfl⟩
     go_wp2_with fail
     go_region
     go_wp2
     go_roundw
     case rel => exact ⟨p1, _, by have := HP1.out; omega, rfl, by have := HP1.out; subst this; exact H2⟩
     case measure => have := HP1.out; simp [intOf]; omega
    ·have hd : ∀ j, j < 64 -> g j = wd s.data.toList j := fun j hj => H.out.2.1 j (by omega)
     have HR : Hid (Row wr (w.heap.size + 1) 288 64 (wd s.data.toList) /\ Row wr w.heap.size 288 64 (fun _ => 0) /\ Below w.heap.size w wr) := ⟨H.out.1.congr hd, H.out.2.2⟩
     clear hd H
     go_wp2_with (first | (refine step_loadRow 288 285 (w.heap.size + 1) 64 HR.out.1 rfl rfl rfl Tryz.underlying288 info64 ?_) | (refine step_storeRow 288 w.heap.size 64 (wd s.data.toList) HR.out.2.1 rfl rfl rfl rfl rfl info64 ?_; intro W2 HW2))
     have hW2 := HW2.out
     subst hW2
     have hrow := HR.out.2.1.setRow (g := wd s.data.toList)
     refine bodyPost_ret (v := .agg (arrN 64 (wd s.data.toList))) ?_ rfl ⟨rfl, ?_⟩
     ·exact results_cell_row rfl _ _ w.heap.size _ (arrN 64 (wd s.data.toList)) (0, 0) _ rfl hrow Tryz.underlying288 rfl (by rw [arrN_size]; exact info64)
     ·exact below_setRow HR.out.2.2 (Nat.le_refl _) _
end Go.Proofs.YtjgbmnhoajiabaaGreatDoor
