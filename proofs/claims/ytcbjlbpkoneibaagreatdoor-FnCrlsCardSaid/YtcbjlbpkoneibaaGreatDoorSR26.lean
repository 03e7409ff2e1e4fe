/-
  Texts of the proof.
-/
import Derived.Laws.Rows
import Derived.Laws.Tables
import Derived.Deep.MidRow
import Derived.Deep.RegionHeld3
import Derived.Laws.CopyOwn
import Derived.Laws.ResultCell
import Derived.Lib.LaidTab
import Derived.Deep.QuietTactic
import Derived.Lib.AppendIntMem
import Derived.Test.YtcbjlbpkoneibaaGreatDoorSR25
set_option linter.unusedVariables false
set_option linter.unusedSimpArgs false
set_option maxRecDepth 100000
set_option maxHeartbeats 25600000
namespace Go.Proofs.YtcbjlbpkoneibaaGreatDoor
open Go.RowKit
def arrN (n : Nat) (f : Nat -> Nat) : Array Value := ((List.range n).map fun j => Value.int .u32 ((f j : Nat) : Int)).toArray
theorem arrN_size (n : Nat) (f : Nat -> Nat) : (arrN n f).size = n := by simp [arrN]
theorem arrN_get (n : Nat) (f : Nat -> Nat) (j : Nat) (h : j < n) : (arrN n f)[j]? = some (.int .u32 ((f j : Nat) : Int)) := by
 simp [arrN, h]
theorem arrN_congr {n : Nat} {f g : Nat -> Nat} (h : ∀ j, j < n -> f j = g j) : arrN n f = arrN n g := by
 unfold arrN
 congr 1
 apply List.map_congr_left;intro j hj;rw [h j (List.mem_range.1 hj)]
theorem arrN_one (n : Nat) (f : Nat -> Nat) : (arrN n f).all (·.oneCell') = true := by
 rw [Array.all_eq_true_iff_forall_mem];intro x hx;simp only [arrN, List.mem_toArray, List.mem_map] at hx;obtain ⟨j, _, rfl⟩ := hx;rfl
def upd (f : Nat -> Nat) (k v : Nat) : Nat -> Nat := fun j => if j = k then v else f j
theorem upd_same (f : Nat -> Nat) (k v : Nat) : upd f k v k = v := by simp [upd]
theorem upd_other (f : Nat -> Nat) {k j : Nat} (v : Nat) (h : j ≠ k) : upd f k v j = f j := by simp [upd, h]
theorem arrN_set (n : Nat) (f : Nat -> Nat) (k v : Nat) : (arrN n f).setIfInBounds k (.int .u32 ((v : Nat) : Int)) = arrN n (upd f k v) := by
 apply Array.ext_getElem?;intro i;rw [Array.getElem?_setIfInBounds];by_cases hi : i < n
 ·rw [arrN_get n (upd f k v) i hi]
  by_cases hk : k = i
  ·subst hk
   rw [if_pos rfl, if_pos (by rw [arrN_size]; exact hi), upd_same]
  ·rw [if_neg hk, arrN_get n f i hi, upd_other f v (fun e => hk e.symm)]
 ·have h1 : (arrN n (upd f k v))[i]? = none := by rw [Array.getElem?_eq_none_iff, arrN_size]; omega
  have h2 : (arrN n f)[i]? = none := by rw [Array.getElem?_eq_none_iff, arrN_size]; omega
  rw [h1, h2]
  split
  ·rw [if_neg (by rw [arrN_size]; omega)]
  ·rfl
def Row (w : World) (b : Nat) (t : TypeId) (n : Nat) (f : Nat -> Nat) : Prop := w.heap[b]? = some (.cells (arrN n f) t (0, 0))
theorem Row.cell {w : World} {b : Nat} {t : TypeId} {n : Nat} {f : Nat -> Nat} (h : Row w b t n f) (j : Nat) (hj : j < n) : w.cell? ⟨b, j, none⟩ = some (.int .u32 ((f j : Nat) : Int)) := by
 rw [cell_of_row w b j _ t _ h, arrN_get n f j hj]
theorem Row.free {w : World} {b : Nat} {t : TypeId} {n : Nat} {f : Nat -> Nat} (h : Row w b t n f) (j : Nat) : w.frozen? ⟨b, j, none⟩ = false := by
 have h' : w.heap[b]? = some (.cells (arrN n f) t (0, 0)) := h;simp [World.frozen?, h']
theorem Row.set {w : World} {b : Nat} {t : TypeId} {n : Nat} {f : Nat -> Nat} (h : Row w b t n f) (k v : Nat) : Row (w.setCell ⟨b, k, none⟩ (.int .u32 ((v : Nat) : Int))) b t n (upd f k v) := by
 show _ = _;rw [heap_setCell_same w b k _ t _ h, arrN_set]
theorem Row.other {w : World} {b : Nat} {t : TypeId} {n : Nat} {f : Nat -> Nat} (h : Row w b t n f) (a : Addr) (v : Value) (hb : b ≠ a.block) : Row (w.setCell a v) b t n f := by
 show _ = _;rw [heap_setCell_other w a b v hb];exact h
theorem Row.congr {w : World} {b : Nat} {t : TypeId} {n : Nat} {f g : Nat -> Nat} (h : Row w b t n f) (hfg : ∀ j, j < n -> f j = g j) : Row w b t n g := by
 show _ = _;rw [<- arrN_congr hfg];exact h
theorem Row.load {w : World} {b : Nat} {t : TypeId} {n : Nat} {f : Nat -> Nat} {P : Program} {ty e : TypeId} {m : Nat} (h : Row w b t n f) (hu : P.underlying ty = some (.array m e)) (hi : (P.info? ty).map (·.size) = some n) :
  (loadVar ty ⟨b, 0, none⟩).run P w = .ok (.agg (arrN n f)) w :=
 run_loadVar_row w b t ty (arrN n f) (0, 0) _ h hu rfl (by rw [arrN_size]; exact hi)
theorem Row.store {w : World} {b : Nat} {t : TypeId} {n : Nat} {f g : Nat -> Nat} {P : Program} {ty : TypeId} (h : Row w b t n f) (hi : (P.info? ty).map (·.size) = some n) :
  (storeVar ty ⟨b, 0, none⟩ (.agg (arrN n g))).run P w = .ok () (w.setRow b (arrN n g)) :=
 run_storeVar_row w b t ty (arrN n f) (arrN n g) h (by rw [arrN_size]; exact hi) (by rw [arrN_size, arrN_size]) (arrN_one _ _)
theorem Row.setRow {w : World} {b : Nat} {t : TypeId} {n : Nat} {f g : Nat -> Nat} (h : Row w b t n f) : Row (w.setRow b (arrN n g)) b t n g := setRow_heap w b _ _ t _ h
theorem Row.setRow_other {w : World} {b : Nat} {t : TypeId} {n : Nat} {f : Nat -> Nat} (h : Row w b t n f) (k : Nat) (cs : Array Value) (hk : b ≠ k) : Row (w.setRow k cs) b t n f := by
 show _ = _;rw [Go.setRow_other w k b cs hk];exact h
theorem Row.below {w w' : World} {B b : Nat} {t : TypeId} {n : Nat} {f : Nat -> Nat} (h : Row w b t n f) (hB : Below B w w') (hb : b < B) : Row w' b t n f := by
 show _ = _;rw [hB.block b hb];exact h
theorem Row.new (w : World) (t : TypeId) (n : Nat) (f : Nat -> Nat) : Row (w.alloc (.cells (arrN n f) t)) w.heap.size t n f := by
 show (w.heap.push _)[w.heap.size]? = _;simp
theorem Row.alloc {w : World} {b : Nat} {t : TypeId} {n : Nat} {f : Nat -> Nat} (h : Row w b t n f) (o : Obj) : Row (w.alloc o) b t n f := by
 have hb : b < w.heap.size := (Array.getElem?_eq_some_iff.1 h).1;show (w.heap.push o)[b]? = _;rw [Array.getElem?_push, if_neg (by omega)];exact h
theorem sizeA (w : World) (o : Obj) : (w.alloc o).heap.size = w.heap.size + 1 := by
 show (w.heap.push o).size = _;simp
theorem Row.new1 (w : World) (o : Obj) (t : TypeId) (n : Nat) (f : Nat -> Nat) : Row ((w.alloc o).alloc (.cells (arrN n f) t)) (w.heap.size + 1) t n f := by
 rw [<- sizeA w o];exact Row.new _ _ _ _
theorem size_alloc2 (w : World) (o p : Obj) : ((w.alloc o).alloc p).heap.size = w.heap.size + 2 := by rw [sizeA, sizeA]
theorem below2 (w : World) (o p : Obj) : zW w ((w.alloc o).alloc p) := ((Below.refl _ _).alloc (Nat.le_refl _) _).alloc (by rw [sizeA]; omega) _
theorem step_loadRow {P : Program} {ops : Array Oper} {rest : List Oper} {op : Oper} {a : Act} {w : World} {Q : Exit -> Act -> World -> Prop} {x : Operand} (ty e : TypeId) (b n : Nat) {t : TypeId} {f : Nat -> Nat} (h : Row w b t n f) (hgd : op.guard = none) (ho : op.op = .load ty x) (hx : a.eval x = .pointer (some ⟨b, 0, none⟩))
  (hu : P.underlying ty = some (.array n e)) (hi : (P.info? ty).map (·.size) = some n) (hk : wpList P ops Q rest (a.put op.dst (.agg (arrN n f))) w) : wpList P ops Q (op :: rest) a w :=
 wpList_load_mid hgd ty x ho b 0 hx ((List.range n).map fun j => Value.int .u32 ((f j : Nat) : Int)) _ (fun j v hv => by
  rw [Nat.zero_add, cell_of_row w b j _ t _ h];simpa [arrN] using hv) hu rfl (by simpa using hi) hk
theorem step_storeRow {P : Program} {ops : Array Oper} {rest : List Oper} {op : Oper} {a : Act} {w : World} {Q : Exit -> Act -> World -> Prop} {x y : Operand} (ty : TypeId) (b n : Nat) {t : TypeId} {f : Nat -> Nat} (g : Nat -> Nat) (h : Row w b t n f) (hgd : op.guard = none) (hds : op.dst = none) (ho : op.op = .store ty x y) (hx : a.eval x = .pointer (some ⟨b, 0, none⟩)) (hy : a.eval y = .agg (arrN n g))
  (hi : (P.info? ty).map (·.size) = some n) (hk : ∀ W, Hid (W = w.setRow b (arrN n g)) -> wpList P ops Q rest a W) : wpList P ops Q (op :: rest) a w :=
 wpList_plain hgd fun _ hK => by
  have hs := Row.store (P := P) (ty := ty) (g := g) h hi;unfold Oper.wp execOp;simp only [ho, hx, hy, Instr.storeAt, Instr.sureAddr, Sem.run_bind, Sem.run_pure, Result.andThen_ok, hs];have hK' := hK _ _ (hk _ rfl);have hp : a.put op.dst undef = a := by rw [hds]; rfl
  rw [<- hp] at hK';exact hK'
def pw (bl : List UInt8) (i j : Nat) : Nat :=
 if 4 * j + 4 <= i then wordOf bl j
 else if i <= 4 * j then 0
 else if i = 4 * j + 1 then (bl.getD (4 * j) 0).toNat
 else if i = 4 * j + 2 then (bl.getD (4 * j) 0).toNat * 256 + (bl.getD (4 * j + 1) 0).toNat
 else (bl.getD (4 * j) 0).toNat * 65536 + (bl.getD (4 * j + 1) 0).toNat * 256 + (bl.getD (4 * j + 2) 0).toNat
theorem pw_zero (bl : List UInt8) (j : Nat) : pw bl 0 j = 0 := by
 unfold pw;rw [if_neg (by omega), if_pos (by omega)]
theorem pw_other (bl : List UInt8) (i j : Nat) (h : j ≠ i / 4) : pw bl (i + 1) j = pw bl i j := by
 unfold pw;by_cases h1 : 4 * j + 4 <= i
 ·rw [if_pos (by omega), if_pos h1]
 ·have h2 : i <= 4 * j /\ i + 1 <= 4 * j := by omega
  rw [if_neg (by omega), if_pos h2.2, if_neg h1, if_pos h2.1]
theorem pw_same (bl : List UInt8) (i : Nat) : pw bl (i + 1) (i / 4) = pw bl i (i / 4) % 16777216 * 256 + (bl.getD i 0).toNat := by
 have b0 := (bl.getD (4 * (i / 4)) 0).toNat_lt;have b1 := (bl.getD (4 * (i / 4) + 1) 0).toNat_lt;have b2 := (bl.getD (4 * (i / 4) + 2) 0).toNat_lt;have hc : i = 4 * (i / 4) ∨ i = 4 * (i / 4) + 1 ∨ i = 4 * (i / 4) + 2 ∨ i = 4 * (i / 4) + 3 := by omega
 generalize hq : i / 4 = q at *;unfold pw wordOf
 rcases hc with h | h | h | h <;> subst h
 ·rw [if_neg (by omega), if_neg (by omega), if_pos rfl, if_neg (by omega), if_pos (by omega)]; omega
 ·rw [if_neg (by omega), if_neg (by omega), if_neg (by omega), if_pos rfl, if_neg (by omega), if_neg (by omega), if_pos rfl]; omega
 ·rw [if_neg (by omega), if_neg (by omega), if_neg (by omega), if_neg (by omega), if_neg (by omega), if_neg (by omega), if_neg (by omega), if_pos rfl]; omega
 ·rw [if_pos (by omega), if_neg (by omega), if_neg (by omega), if_neg (by omega), if_neg (by omega)]; omega
theorem pw_lt (bl : List UInt8) (i j : Nat) : pw bl i j < 4294967296 := by
 have b0 := (bl.getD (4 * j) 0).toNat_lt;have b1 := (bl.getD (4 * j + 1) 0).toNat_lt;have b2 := (bl.getD (4 * j + 2) 0).toNat_lt;have := wordOf_lt bl j;unfold pw
 repeat' split
 all_goals omega
theorem shl8_or (x b : Nat) (hb : b < 256) : (x % 16777216 * 256) ||| b = x % 16777216 * 256 + b := by
 have := Nat.shiftLeft_add_eq_or_of_lt (b := b) (i := 8) (by simpa using hb) (x % 16777216);rw [Nat.shiftLeft_eq] at this;exact this.symm
end Go.Proofs.YtcbjlbpkoneibaaGreatDoor
namespace Go.Proofs.YtcbjlbpkoneibaaGreatDoor
open Go.RowKit
theorem info64 : (Tryz.prog.info? 183).map (·.size) = some 64 := by kernel_rfl
theorem or8 (y b : Nat) (hb : b < 256) : bits .or .u32 ((y : Int) * 256 % 4294967296) (b : Int) = ((y % 16777216 * 256 + b : Nat) : Int) := by
 have h := u32_or_nat (y % 16777216 * 256) b (by omega) (by omega);rw [shl8_or y b hb] at h;rw [<- h]
 congr 1
 omega
theorem roundWords_any (s : ByteArray) (w : World) (hs : s.size = 64) : Calls Tryz.prog 186 #[zG s] w fun e w' => e = .returned (.agg (arrN 64 (wd s.data.toList))) /\ zW w w' := by
 go_enter Tryz.func186, Tryz.ntmps186
 go_wp2
 go_loopw [8] (fun iv wr => ∃ (i : Nat) (f : Nat -> Nat), i <= 64 /\ iv = zI i /\ Hid (Row wr (w.heap.size + 1) 183 64 f /\ (∀ j, f j = pw s.data.toList i j) /\ Row wr w.heap.size 183 64 (fun _ => 0) /\ zW w wr)) (fun iv _ => 64 - (intOf iv).toNat)
 case atStart => exact ⟨0, fun _ => 0, Nat.zero_le _, rfl, ⟨Row.new1 w _ _ 64 fun _ => 0, fun j => (pw_zero _ j).symm, (Row.new w _ 64 fun _ => 0).alloc _, below2 _ _ _⟩⟩
 case round =>
  obtain ⟨k, f, hk, rfl, H⟩ := hrel;by_cases hlt : k < 64
  ·have hb := s[k].toNat_lt
   obtain ⟨q, hq⟩ := zE (k / 4);have hqi : (k : Int) / 4 = (q : Int) := by omega
   have hq2 : (k : Int).tdiv 4 = (q : Int) := by rw [Int.tdiv_eq_ediv_of_nonneg (by omega)]; exact hqi
   have hq64 : q < 64 := by omega
   obtain ⟨y, hy⟩ := zE (f q);have hc := H.1.cell q hq64;have hfr := H.1.free q;rw [hy] at hc;have hyl : y < 4294967296 := by rw [<- hy, H.2.1]; exact pw_lt _ _ _
   have ho := or8 y s[k].toNat hb;obtain ⟨z, hz⟩ := zE (y % 16777216 * 256 + s[k].toNat);rw [hz] at ho;have hk0 : (0 : Int) <= (k : Int) := by omega
   have hk1 : (k : Int) < 64 := by omega
   have hks : (k : Int) < (s.size : Int) := by omega
   have hq0 : (0 : Int) <= (q : Int) := by omega
   have hq1 : (q : Int) < 64 := by omega
   have hwq : IntKind.i64.wrap (q : Int) = (q : Int) := IntWalk.i64_in _ (by omega);have H2 : Hid (Row (wr.setCell ⟨w.heap.size + 1, q, none⟩ (.int .u32 (z : Int))).drew (w.heap.size + 1) 183 64 (upd f q z) /\ (∀ j, upd f q z j = pw s.data.toList (k + 1) j) /\ Row (wr.setCell ⟨w.heap.size + 1, q, none⟩ (.int .u32 (z : Int))).drew w.heap.size 183 64 (fun _ => 0) /\ zW w (wr.setCell ⟨w.heap.size + 1, q, none⟩ (.int .u32 (z : Int))).drew) := by
    refine ⟨H.1.set q z, fun j => ?_, H.2.2.1.other _ _ (show w.heap.size ≠ w.heap.size + 1 by omega), (H.2.2.2.setCell (show w.heap.size <= w.heap.size + 1 by omega) _).drew⟩;by_cases hj : j = q
    ·subst hj
     rw [upd_same, <- hz, <- hy, H.2.1, <- hq, pw_same]
     congr 2
     rw [List.getD_eq_getElem?_getD, List.getElem?_eq_getElem (by simpa using (by omega : k < s.size))];rfl
    ·rw [upd_other _ _ hj, H.2.1, pw_other _ _ _ (by omega)]
   clear H hy hz hq
   go_wp2
   go_region
   go_wp2
   go_roundw
   case rel => exact ⟨k + 1, _, by omega, by go_num, H2⟩
   case measure => simp [intOf]; omega
  ·go_wp2
   go_loopw [25] (fun iv wr => ∃ (i : Nat) (f : Nat -> Nat), i <= 48 /\ iv = zI i /\ Hid (Row wr (w.heap.size + 1) 183 64 f /\ (∀ j, j < i + 16 -> f j = wd s.data.toList j) /\ Row wr w.heap.size 183 64 (fun _ => 0) /\ zW w wr)) (fun iv _ => 48 - (intOf iv).toNat)
   case atStart =>
    refine ⟨0, f, by omega, rfl, ⟨H.1, fun j hj => ?_, H.2.2.1, H.2.2.2⟩⟩;rw [H.2.1, wd_lo _ (by omega), pw, if_pos (by omega)]
   case round =>
    clear H;obtain ⟨i, g, hi, rfl, H⟩ := hrel;by_cases hlt2 : i < 48
    ·have hc14 := H.1.cell (i + 14) (by omega)
     have hc1 := H.1.cell (i + 1) (by omega);have hc9 := H.1.cell (i + 9) (by omega);have hc0 := H.1.cell i (by omega);have hfr := H.1.free (i + 16);have hc16 := H.1.cell (i + 16) (by omega);rw [H.2.1 _ (by omega)] at hc14 hc1 hc9 hc0;obtain ⟨a, ha⟩ := zE (wd s.data.toList (i + 14));obtain ⟨b, hb⟩ := zE (wd s.data.toList (i + 1));obtain ⟨c, hc⟩ := zE (wd s.data.toList (i + 9));obtain ⟨d, hd⟩ := zE (wd s.data.toList i);have hal : a < 4294967296 := by rw [<- ha]; exact wd_lt _ _
     have hbl : b < 4294967296 := by rw [<- hb]; exact wd_lt _ _
     have hcl : c < 4294967296 := by rw [<- hc]; exact wd_lt _ _
     have hdl : d < 4294967296 := by rw [<- hd]; exact wd_lt _ _
     rw [ha] at hc14;rw [hb] at hc1;rw [hc] at hc9;rw [hd] at hc0;obtain ⟨p14, hp14⟩ := zE (i + 14);obtain ⟨p1, hp1⟩ := zE (i + 1);obtain ⟨p9, hp9⟩ := zE (i + 9);obtain ⟨p16, hp16⟩ := zE (i + 16);have hw14 : IntKind.i64.wrap ((i : Int) + 14) = (p14 : Int) := by rw [IntWalk.i64_in _ (by omega)]; omega
     have hw1 : IntKind.i64.wrap ((i : Int) + 1) = (p1 : Int) := by rw [IntWalk.i64_in _ (by omega)]; omega
     have hw9 : IntKind.i64.wrap ((i : Int) + 9) = (p9 : Int) := by rw [IntWalk.i64_in _ (by omega)]; omega
     have hw16 : IntKind.i64.wrap ((i : Int) + 16) = (p16 : Int) := by rw [IntWalk.i64_in _ (by omega)]; omega
     have h14 : (p14 : Int) < 64 := by omega
     have h1 : (p1 : Int) < 64 := by omega
     have h9 : (p9 : Int) < 64 := by omega
     have h16 : (p16 : Int) < 64 := by omega
     have h140 : 0 <= (p14 : Int) := by omega
     have h10 : 0 <= (p1 : Int) := by omega
     have h90 : 0 <= (p9 : Int) := by omega
     have h160 : 0 <= (p16 : Int) := by omega
     have hi0 : 0 <= (i : Int) := by omega
     have hi64 : (i : Int) < 64 := by omega
     rw [hp14] at hc14;rw [hp1] at hc1;rw [hp9] at hc9;rw [hp16] at hfr hc16;have HP : Hid (i + 14 = p14 /\ i + 1 = p1 /\ i + 9 = p9 /\ i + 16 = p16 /\ wd s.data.toList (i + 14) = a /\ wd s.data.toList (i + 1) = b /\ wd s.data.toList (i + 9) = c /\ wd s.data.toList i = d) := ⟨hp14, hp1, hp9, hp16, ha, hb, hc, hd⟩;clear hp14 hp1 hp9 hp16 ha hb hc hd;obtain ⟨x1, hx1⟩ := zE (rotr 17 a ^^^ rotr 19 a);obtain ⟨n, hn⟩ := zE (smS1 a);obtain ⟨x2, hx2⟩ := zE (rotr 7 b ^^^ rotr 18 b);obtain ⟨m, hm⟩ := zE (smS0 b);have hnl : n < 4294967296 := by rw [<- hn]; exact smS1_lt hal
     have hml : m < 4294967296 := by rw [<- hm]; exact smS0_lt hbl
     have hX1 : bits .xor .u32 ((rotr 17 a : Nat) : Int) ((rotr 19 a : Nat) : Int) = (x1 : Int) := by rw [<- hx1]; exact u32_xor_nat _ _ (rotr_lt _ hal) (rotr_lt _ hal)
     have hX2 : bits .xor .u32 (x1 : Int) ((a : Int) / 1024) = (n : Int) := by rw [<- hn, smS1, hx1]; exact u32_xor_nat _ _ (by rw [<- hx1]; exact xor_lt32 (rotr_lt _ hal) (rotr_lt _ hal)) (Nat.lt_of_le_of_lt (Nat.div_le_self _ _) hal)
     have hX3 : bits .xor .u32 ((rotr 7 b : Nat) : Int) ((rotr 18 b : Nat) : Int) = (x2 : Int) := by rw [<- hx2]; exact u32_xor_nat _ _ (rotr_lt _ hbl) (rotr_lt _ hbl)
     have hX4 : bits .xor .u32 (x2 : Int) ((b : Int) / 8) = (m : Int) := by rw [<- hm, smS0, hx2]; exact u32_xor_nat _ _ (by rw [<- hx2]; exact xor_lt32 (rotr_lt _ hbl) (rotr_lt _ hbl)) (Nat.lt_of_le_of_lt (Nat.div_le_self _ _) hbl)
     obtain ⟨s1, hs1⟩ := zE ((n + c) % 4294967296);obtain ⟨s2, hs2⟩ := zE ((s1 + m) % 4294967296);obtain ⟨z, hz⟩ := zE ((s2 + d) % 4294967296);have hW1 : IntKind.u32.wrap ((n : Int) + (c : Int)) = (s1 : Int) := by rw [IntKind.wrap_u32]; omega
     have hW2 : IntKind.u32.wrap ((s1 : Int) + (m : Int)) = (s2 : Int) := by rw [IntKind.wrap_u32]; omega
     have hW3 : IntKind.u32.wrap ((s2 : Int) + (d : Int)) = (z : Int) := by rw [IntKind.wrap_u32]; omega
     have hzw : wd s.data.toList (i + 16) = z := by
      rw [wd_hi, HP.2.2.2.2.1, HP.2.2.2.2.2.1, HP.2.2.2.2.2.2.1, HP.2.2.2.2.2.2.2, hn, hm];omega
     have H2 : Hid (Row (wr.setCell ⟨w.heap.size + 1, p16, none⟩ (.int .u32 (z : Int))).drew.drew (w.heap.size + 1) 183 64 (upd g p16 z) /\ (∀ j, j < i + 1 + 16 -> upd g p16 z j = wd s.data.toList j) /\ Row (wr.setCell ⟨w.heap.size + 1, p16, none⟩ (.int .u32 (z : Int))).drew.drew w.heap.size 183 64 (fun _ => 0) /\ zW w (wr.setCell ⟨w.heap.size + 1, p16, none⟩ (.int .u32 (z : Int))).drew.drew) := by
      refine ⟨H.1.set p16 z, fun j hj => ?_, H.2.2.1.other _ _ (show w.heap.size ≠ w.heap.size + 1 by omega), (H.2.2.2.setCell (show w.heap.size <= w.heap.size + 1 by omega) _).drew.drew⟩;have h16 := HP.2.2.2.1;by_cases hj : j = p16
      ·subst hj
       rw [upd_same, <- hzw, h16]
      ·rw [upd_other _ _ hj, H.2.1 j (by omega)]
     have HP1 : Hid (i + 1 = p1) := HP.2.1;clear hn hm hx1 hx2 hs1 hs2 hz hzw H HP;go_wp2_with fail
     go_region
     go_wp2_with fail;refine (turned_any a 17 _ hal (by decide) (by decide)).mono ?_;rintro e w1 ⟨rfl, rfl⟩;go_wp2_with fail;refine (turned_any a 19 _ hal (by decide) (by decide)).mono ?_;rintro e w1 ⟨rfl, rfl⟩;go_wp2_with fail;refine (turned_any b 7 _ hbl (by decide) (by decide)).mono ?_;rintro e w1 ⟨rfl, rfl⟩;go_wp2_with fail;refine (turned_any b 18 _ hbl (by decide) (by decide)).mono ?_;rintro e w1 ⟨rfl, rfl⟩;go_wp2_with fail
     go_region
     go_wp2
     go_roundw
     case rel => exact ⟨p1, _, by have := HP1.out; omega, rfl, by have := HP1.out; subst this; exact H2⟩
     case measure => have := HP1.out; simp [intOf]; omega
    ·have hd : ∀ j, j < 64 -> g j = wd s.data.toList j := fun j hj => H.2.1 j (by omega)
     have HR : Hid (Row wr (w.heap.size + 1) 183 64 (wd s.data.toList) /\ Row wr w.heap.size 183 64 (fun _ => 0) /\ zW w wr) := ⟨H.1.congr hd, H.2.2⟩;clear hd H;go_wp2_with (first | (refine step_loadRow 183 180 (w.heap.size + 1) 64 HR.1 rfl rfl rfl Tryz.underlying183 info64 ?_) | (refine step_storeRow 183 w.heap.size 64 (wd s.data.toList) HR.2.1 rfl rfl rfl rfl rfl info64 ?_; intro W2 HW2));have hW2 := HW2.out;subst hW2;have hrow := HR.2.1.setRow (g := wd s.data.toList);refine bodyPost_ret (v := .agg (arrN 64 (wd s.data.toList))) ?_ rfl ⟨rfl, ?_⟩
     ·exact results_cell_row rfl _ _ w.heap.size _ (arrN 64 (wd s.data.toList)) (0, 0) _ rfl hrow Tryz.underlying183 rfl (by rw [arrN_size]; exact info64)
     ·exact below_setRow HR.2.2 (Nat.le_refl _) _
def stf (s : St) : Nat -> Nat
 | 0 => s.a
 | 1 => s.b
 | 2 => s.c
 | 3 => s.d
 | 4 => s.e
 | 5 => s.f
 | 6 => s.g
 | _ => s.h
theorem info8 : (Tryz.prog.info? 187).map (·.size) = some 8 := by kernel_rfl
theorem gKeys : Tryz.prog.globalNamed "loop.example/g00394/impl.roundNumbers" = some 2 := by kernel_rfl
abbrev KeysOk (w : World) : Prop := Lib.TabIs Tryz.prog w "loop.example/g00394/impl.roundNumbers" .u32 (keysN.map fun n => ((n : Nat) : Int))
theorem keys_at (k : Nat) : (keysN.map fun n => ((n : Nat) : Int)).getD k 0 = ((keysN.getD k 0 : Nat) : Int) := by
 rw [List.getD_eq_getElem?_getD, List.getD_eq_getElem?_getD, List.getElem?_map]
 cases keysN[k]? <;> rfl
theorem keysBelow {w : World} (h : KeysOk w) : ∀ w', zW w w' -> KeysOk w' := Lib.tabBelow_of_tabIs h
theorem after_any (s : St) (b : ByteArray) (w : World) (hok : s.ok) (hs : b.size = 64) (hT : KeysOk w) : Calls Tryz.prog 172 #[.agg (arrN 8 (stf s)), zG b] w fun e w' => e = .returned (.agg (arrN 8 (stf (blockN s b.data.toList)))) /\ zW w w' := by
 have HT : Hid (KeysOk w) := hT;clear hT;go_enter Tryz.func172, Tryz.ntmps172;go_wp2_with (first | (go_at_call 186; refine (roundWords_any b _ hs).mono ?_; rintro e w1 ⟨rfl, hb1⟩) | (refine step_storeRow 183 w1.heap.size 64 (wd b.data.toList) (Row.new w1 183 64 fun _ => 0) rfl rfl rfl rfl rfl info64 ?_; intro W2 HW2));have HF : Hid (Row W2 w.heap.size 187 8 (stf s) /\ Row W2 (w.heap.size + 1) 187 8 (fun _ => 0) /\ Row W2 w1.heap.size 183 64 (wd b.data.toList) /\ zW w W2 /\ w.heap.size + 2 <= w1.heap.size /\ w1.heap.size < W2.heap.size) := by
  have hW2 := HW2.out;subst hW2;have h0 := size_alloc2 w (.cells (arrN 8 (stf s)) 187) (.cells (arrN 8 fun _ => 0) 187);have hsz := hb1.size;have h0' : w.heap.size + 2 <= w1.heap.size := Nat.le_trans (Nat.le_of_eq h0.symm) hsz;refine ⟨?_, ?_, ?_, ?_, h0', ?_⟩
  ·refine Row.setRow_other (Row.alloc (Row.below ((Row.new w 187 8 (stf s)).alloc _) hb1 ?_) _) _ _ (by omega)
   exact Nat.lt_of_lt_of_le (show w.heap.size < w.heap.size + 1 + 1 by omega) (Nat.le_of_eq h0.symm)
  ·refine Row.setRow_other (Row.alloc (Row.below (Row.new1 w _ 187 8 fun _ => 0) hb1 ?_) _) _ _ (by omega)
   exact Nat.lt_of_lt_of_le (show w.heap.size + 1 < w.heap.size + 1 + 1 by omega) (Nat.le_of_eq h0.symm)
  ·exact Row.setRow (Row.new w1 183 64 fun _ => 0)
  ·exact below_setRow (((below2 w _ _).trans (hb1.mono (Nat.le_trans (Nat.le_add_right _ 2) (Nat.le_of_eq h0.symm)))).alloc (by omega) _) (by omega) _
  ·rw [size_setRow, sizeA]; omega
 clear HW2 hb1;obtain ⟨c, hc⟩ := zE (w1.heap.size);rw [hc] at HF;rw [hc];clear hc;have hcs := fun j hj => HF.1.cell j hj
 have c0 := hcs 0 (by decide);have c1 := hcs 1 (by decide);have c2 := hcs 2 (by decide);have c3 := hcs 3 (by decide);have c4 := hcs 4 (by decide);have c5 := hcs 5 (by decide);have c6 := hcs 6 (by decide);have c7 := hcs 7 (by decide);clear hcs;simp only [stf] at c0 c1 c2 c3 c4 c5 c6 c7
 go_quiet (fail)
 go_wp2_with fail;have HB0 : Hid (zW w (W2.drewN nq)) := HF.2.2.2.1.trans ⟨rfl, rfl, rfl, Nat.le_refl _, fun _ _ => rfl⟩;clear c0 c1 c2 c3 c4 c5 c6 c7
 go_loopw [6, 7, 8, 9, 10, 11, 12, 13, 37] (fun va vb vc vd ve vf vg vh iv wr => ∃ (k : Nat) (x : St), k <= 64 /\ iv = zI k /\ va = .int .u32 x.a /\ vb = .int .u32 x.b /\ vc = .int .u32 x.c /\ vd = .int .u32 x.d /\ ve = .int .u32 x.e /\ vf = .int .u32 x.f /\ vg = .int .u32 x.g /\ vh = .int .u32 x.h /\ Hid (x = rounds b.data.toList k s /\ Row wr w.heap.size 187 8 (stf s) /\ Row wr (w.heap.size + 1) 187 8 (fun _ => 0) /\ Row wr c 183 64 (wd b.data.toList) /\ zW w wr)) (fun _ _ _ _ _ _ _ _ iv _ => 64 - (intOf iv).toNat)
 case atStart => exact ⟨0, s, by omega, rfl, rfl, rfl, rfl, rfl, rfl, rfl, rfl, rfl, ⟨rfl, HF.1, HF.2.1, HF.2.2.1, HB0.out⟩⟩
 case round =>
  clear HF HB0;obtain ⟨k, x, hk, rfl, rfl, rfl, rfl, rfl, rfl, rfl, rfl, rfl, H⟩ := hrel;have hx : x.ok := by rw [H.1]; exact rounds_ok _ _ hok
  obtain ⟨xa, xb, xc, xd, xe, xf, xg, xh⟩ := x;obtain ⟨la, lb, lc, ld, le, lf, lg, lh⟩ := hx;dsimp only at la lb lc ld le lf lg lh;by_cases hlt : k < 64
  ·have hk1 : (k : Int) < 64 := by omega
   have hk0 : (0 : Int) <= (k : Int) := by omega
   obtain ⟨wk, hwk⟩ := zE (wd b.data.toList k);obtain ⟨kk, hkk⟩ := zE (keysN.getD k 0);have hcw := H.2.2.2.1.cell k hlt;rw [hwk] at hcw;have hT1 := keysBelow HT.out _ H.2.2.2.2;have hck := Lib.TabIs.cell hT1 gKeys k (by rw [List.length_map, keysN_len]; exact hlt);rw [keys_at k, hkk] at hck;clear hT1;have hkl : kk < 4294967296 := by rw [<- hkk]; exact keysN_lt k
   have hwl : wk < 4294967296 := by rw [<- hwk]; exact wd_lt _ _
   obtain ⟨x1, q1⟩ := zE (rotr 6 xe ^^^ rotr 11 xe);obtain ⟨E, qE⟩ := zE (bigS1 xe);have e1 : bits .xor .u32 ((rotr 6 xe : Nat) : Int) ((rotr 11 xe : Nat) : Int) = (x1 : Int) := by rw [<- q1]; exact u32_xor_nat _ _ (rotr_lt _ le) (rotr_lt _ le)
   have e2 : bits .xor .u32 (x1 : Int) ((rotr 25 xe : Nat) : Int) = (E : Int) := by rw [<- qE, bigS1, q1]; exact u32_xor_nat _ _ (by rw [<- q1]; exact xor_lt32 (rotr_lt _ le) (rotr_lt _ le)) (rotr_lt _ le)
   have hEl : E < 4294967296 := by rw [<- qE]; exact bigS1_lt le
   obtain ⟨x2, q2⟩ := zE (rotr 2 xa ^^^ rotr 13 xa);obtain ⟨A, qA⟩ := zE (bigS0 xa);have e3 : bits .xor .u32 ((rotr 2 xa : Nat) : Int) ((rotr 13 xa : Nat) : Int) = (x2 : Int) := by rw [<- q2]; exact u32_xor_nat _ _ (rotr_lt _ la) (rotr_lt _ la)
   have e4 : bits .xor .u32 (x2 : Int) ((rotr 22 xa : Nat) : Int) = (A : Int) := by rw [<- qA, bigS0, q2]; exact u32_xor_nat _ _ (by rw [<- q2]; exact xor_lt32 (rotr_lt _ la) (rotr_lt _ la)) (rotr_lt _ la)
   have hAl : A < 4294967296 := by rw [<- qA]; exact bigS0_lt la
   obtain ⟨i1, p1⟩ := zE (xe &&& xf);obtain ⟨ne, pn⟩ := zE (xe ^^^ 4294967295);obtain ⟨i2, p2⟩ := zE (ne &&& xg);obtain ⟨C, qC⟩ := zE (chN xe xf xg);have hnl : ne < 4294967296 := by rw [<- pn]; exact xor_lt32 le (by decide)
   have e5 : bits .and .u32 (xe : Int) (xf : Int) = (i1 : Int) := by rw [<- p1]; exact u32_and_nat _ _ le lf
   have e6 : bits .xor .u32 IntKind.u32.max (xe : Int) = (ne : Int) := by rw [<- pn, Nat.xor_comm]; exact u32_xor_nat 4294967295 xe (by decide) le
   have e7 : bits .and .u32 (ne : Int) (xg : Int) = (i2 : Int) := by rw [<- p2]; exact u32_and_nat _ _ hnl lg
   have e8 : bits .xor .u32 (i1 : Int) (i2 : Int) = (C : Int) := by rw [<- qC, chN, p1, pn, p2]; exact u32_xor_nat _ _ (by rw [<- p1]; exact and_lt32 le) (by rw [<- p2]; exact and_lt32 hnl)
   have hCl : C < 4294967296 := by rw [<- qC]; exact chN_lt le
   obtain ⟨j1, p3⟩ := zE (xa &&& xb);obtain ⟨j2, p4⟩ := zE (xa &&& xc);obtain ⟨j3, p5⟩ := zE (xb &&& xc);obtain ⟨j4, p6⟩ := zE (j1 ^^^ j2);obtain ⟨M, qM⟩ := zE (majN xa xb xc);have hj1 : j1 < 4294967296 := by rw [<- p3]; exact and_lt32 la
   have hj2 : j2 < 4294967296 := by rw [<- p4]; exact and_lt32 la
   have hj3 : j3 < 4294967296 := by rw [<- p5]; exact and_lt32 lb
   have e9 : bits .and .u32 (xa : Int) (xb : Int) = (j1 : Int) := by rw [<- p3]; exact u32_and_nat _ _ la lb
   have e10 : bits .and .u32 (xa : Int) (xc : Int) = (j2 : Int) := by rw [<- p4]; exact u32_and_nat _ _ la lc
   have e11 : bits .and .u32 (xb : Int) (xc : Int) = (j3 : Int) := by rw [<- p5]; exact u32_and_nat _ _ lb lc
   have e12 : bits .xor .u32 (j1 : Int) (j2 : Int) = (j4 : Int) := by rw [<- p6]; exact u32_xor_nat _ _ hj1 hj2
   have e13 : bits .xor .u32 (j4 : Int) (j3 : Int) = (M : Int) := by rw [<- qM, majN, p3, p4, p5, p6]; exact u32_xor_nat _ _ (by rw [<- p6]; exact xor_lt32 hj1 hj2) hj3
   have hMl : M < 4294967296 := by rw [<- qM]; exact majN_lt la lb
   obtain ⟨s1, h1⟩ := zE ((xh + E) % 4294967296);obtain ⟨s2, h2⟩ := zE ((s1 + C) % 4294967296);obtain ⟨s3, h3⟩ := zE ((s2 + kk) % 4294967296);obtain ⟨T, hT⟩ := zE ((s3 + wk) % 4294967296);obtain ⟨s4, h4⟩ := zE ((T + A) % 4294967296);obtain ⟨na, h5⟩ := zE ((s4 + M) % 4294967296);obtain ⟨nee, h6⟩ := zE ((xd + T) % 4294967296);have v1 : IntKind.u32.wrap ((xh : Int) + (E : Int)) = (s1 : Int) := by rw [IntKind.wrap_u32]; omega
   have v2 : IntKind.u32.wrap ((s1 : Int) + (C : Int)) = (s2 : Int) := by rw [IntKind.wrap_u32]; omega
   have v3 : IntKind.u32.wrap ((s2 : Int) + (kk : Int)) = (s3 : Int) := by rw [IntKind.wrap_u32]; omega
   have v4 : IntKind.u32.wrap ((s3 : Int) + (wk : Int)) = (T : Int) := by rw [IntKind.wrap_u32]; omega
   have v5 : IntKind.u32.wrap ((T : Int) + (A : Int)) = (s4 : Int) := by rw [IntKind.wrap_u32]; omega
   have v6 : IntKind.u32.wrap ((s4 : Int) + (M : Int)) = (na : Int) := by rw [IntKind.wrap_u32]; omega
   have v7 : IntKind.u32.wrap ((xd : Int) + (T : Int)) = (nee : Int) := by rw [IntKind.wrap_u32]; omega
   have HN : Hid ((⟨na, xa, xb, xc, nee, xe, xf, xg⟩ : St) = rounds b.data.toList (k + 1) s) := by
    show _ = rnd _ _ (rounds b.data.toList k s);rw [<- H.1, hkk, hwk];have o1 : oneN kk wk ⟨xa, xb, xc, xd, xe, xf, xg, xh⟩ = T := by unfold oneN; dsimp only; rw [qE, qC]; omega
    have o2 : twoN ⟨xa, xb, xc, xd, xe, xf, xg, xh⟩ = (A + M) % 4294967296 := by unfold twoN; dsimp only; rw [qA, qM]
    unfold rnd;rw [o1, o2];dsimp only
    congr 1 <;> omega
   have H1 := H.2;have HR : Hid (Row wr w.heap.size 187 8 (stf s) /\ Row wr (w.heap.size + 1) 187 8 (fun _ => 0) /\ Row wr c 183 64 (wd b.data.toList) /\ zW w wr) := H1;clear H H1 h1 h2 h3 h4 h5 h6 hT p1 pn p2 p3 p4 p5 p6 q1 qE q2 qA qC qM hwk hkk;go_wp2_with fail;refine (turned_any xe 6 _ le (by decide) (by decide)).mono ?_;rintro e w1 ⟨rfl, rfl⟩;go_wp2_with fail;refine (turned_any xe 11 _ le (by decide) (by decide)).mono ?_;rintro e w1 ⟨rfl, rfl⟩;go_wp2_with fail;refine (turned_any xe 25 _ le (by decide) (by decide)).mono ?_;rintro e w1 ⟨rfl, rfl⟩;go_wp2_with fail
   go_region
   go_wp2_with fail;refine (turned_any xa 2 _ la (by decide) (by decide)).mono ?_;rintro e w1 ⟨rfl, rfl⟩;go_wp2_with fail;refine (turned_any xa 13 _ la (by decide) (by decide)).mono ?_;rintro e w1 ⟨rfl, rfl⟩;go_wp2_with fail;refine (turned_any xa 22 _ la (by decide) (by decide)).mono ?_;rintro e w1 ⟨rfl, rfl⟩;go_wp2_with fail
   go_roundw
   case rel => exact ⟨k + 1, ⟨na, xa, xb, xc, nee, xe, xf, xg⟩, by omega, by go_num, rfl, rfl, rfl, rfl, rfl, rfl, rfl, rfl, ⟨HN.out, HR.1, HR.2.1, HR.2.2.1, HR.2.2.2.drew⟩⟩
   case measure => simp [intOf]; omega
  ·have hcs := fun j hj => H.2.1.cell j hj
   have c0 := hcs 0 (by decide);have c1 := hcs 1 (by decide);have c2 := hcs 2 (by decide);have c3 := hcs 3 (by decide);have c4 := hcs 4 (by decide);have c5 := hcs 5 (by decide);have c6 := hcs 6 (by decide);have c7 := hcs 7 (by decide);clear hcs;simp only [stf] at c0 c1 c2 c3 c4 c5 c6 c7;obtain ⟨ma, mb, mc, md, me, mf, mg, mh⟩ := hok;obtain ⟨ta, ya⟩ := zE ((s.a + xa) % 4294967296);obtain ⟨tb, yb⟩ := zE ((s.b + xb) % 4294967296);obtain ⟨tc, yc⟩ := zE ((s.c + xc) % 4294967296);obtain ⟨td, yd⟩ := zE ((s.d + xd) % 4294967296);obtain ⟨te, ye⟩ := zE ((s.e + xe) % 4294967296);obtain ⟨tf, yf⟩ := zE ((s.f + xf) % 4294967296);obtain ⟨tg, yg⟩ := zE ((s.g + xg) % 4294967296);obtain ⟨th, yh⟩ := zE ((s.h + xh) % 4294967296);have va : IntKind.u32.wrap ((s.a : Int) + (xa : Int)) = (ta : Int) := by rw [IntKind.wrap_u32]; omega
   have vb : IntKind.u32.wrap ((s.b : Int) + (xb : Int)) = (tb : Int) := by rw [IntKind.wrap_u32]; omega
   have vc : IntKind.u32.wrap ((s.c : Int) + (xc : Int)) = (tc : Int) := by rw [IntKind.wrap_u32]; omega
   have vd : IntKind.u32.wrap ((s.d : Int) + (xd : Int)) = (td : Int) := by rw [IntKind.wrap_u32]; omega
   have ve : IntKind.u32.wrap ((s.e : Int) + (xe : Int)) = (te : Int) := by rw [IntKind.wrap_u32]; omega
   have vf : IntKind.u32.wrap ((s.f : Int) + (xf : Int)) = (tf : Int) := by rw [IntKind.wrap_u32]; omega
   have vg : IntKind.u32.wrap ((s.g : Int) + (xg : Int)) = (tg : Int) := by rw [IntKind.wrap_u32]; omega
   have vh : IntKind.u32.wrap ((s.h : Int) + (xh : Int)) = (th : Int) := by rw [IntKind.wrap_u32]; omega
   have hk64 : k = 64 := by omega
   have HS : Hid ((⟨ta, tb, tc, td, te, tf, tg, th⟩ : St) = blockN s b.data.toList) := by
    show _ = addSt s (rounds b.data.toList 64 s);rw [<- hk64, <- H.1];unfold addSt;dsimp only;rw [ya, yb, yc, yd, ye, yf, yg, yh]
   have HR := zH (zJ H.2.2.1 H.2.2.2.2);clear ya yb yc yd ye yf yg yh H hk64;go_wp2_with (refine step_storeRow 187 (w.heap.size + 1) 8 (stf ⟨ta, tb, tc, td, te, tf, tg, th⟩) HR.1 rfl rfl rfl rfl rfl info8 ?_; intro W3 HW3);have hW3 := HW3.out;subst hW3;have hrow := HR.1.setRow (g := stf ⟨ta, tb, tc, td, te, tf, tg, th⟩);rw [<- HS.out];refine bodyPost_ret (v := .agg (arrN 8 (stf ⟨ta, tb, tc, td, te, tf, tg, th⟩))) ?_ rfl ⟨rfl, ?_⟩
   ·exact results_cell_row rfl _ _ (w.heap.size + 1) _ (arrN 8 (stf ⟨ta, tb, tc, td, te, tf, tg, th⟩)) (0, 0) _ rfl hrow Tryz.underlying187 rfl (by rw [arrN_size]; exact info8)
   ·exact below_setRow HR.2 (by omega) _
end Go.Proofs.YtcbjlbpkoneibaaGreatDoor
