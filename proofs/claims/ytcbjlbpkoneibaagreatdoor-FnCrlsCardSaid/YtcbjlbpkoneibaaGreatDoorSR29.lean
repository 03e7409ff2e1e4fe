/-
  Texts of the proof.
-/
import Derived.Test.YtcbjlbpkoneibaaGreatDoorSH1
import Derived.Deep.WholeRow
import Derived.StillTailTactics
import Derived.Lib.LaidU8
import Derived.Test.YtcbjlbpkoneibaaGreatDoorSR28
set_option linter.unusedVariables false
set_option linter.unusedSimpArgs false
set_option maxRecDepth 100000
set_option maxHeartbeats 25600000
namespace Go.Proofs.YtcbjlbpkoneibaaGreatDoor
open Go.RowKit
theorem writeS (B b : Nat) (bs : List Value) (s : ByteArray) (w : World) (h : Lib.IsBuilder 174 5 B b bs w) (hlen : bs.length + s.size <= 140737488355328) (hBw : B <= w.heap.size) :
  Calls Tryz.prog 160 #[.pointer (some ⟨b, 0, none⟩), zG s] w fun e w' => e = .returned (.tuple #[zI s.size, .nilIface]) /\ (Lib.BuilderAt 174 5 B b (.pointer (some ⟨b, 0, none⟩)) (bs ++ Lib.strCells s) w' /\ Below B w w') :=
 Any.Builder_WriteString { Tryz.lays105 with } Tryz.Builder_Extra_105 B b bs s w h hlen hBw
theorem ownsRow_stays {w w' : World} {base : Nat} {e : TypeId} {size : Nat} {v : Value} {n : Nat} {xs : List Value} (h : w.ownsRow base e size v n xs) (hb : zW w w') : w'.ownsRow base e size v n xs := by
 obtain ⟨h1, h2⟩ := h;refine ⟨h1, ?_⟩
 rcases h2 with h2 | ⟨g, cap, cur, hv, hbg, hg, r⟩
 ·exact .inl h2
 ·have hlt : g < w.heap.size := by
   rcases Nat.lt_or_ge g w.heap.size with h | h
   ·exact h
   ·rw [Array.getElem?_eq_none h] at hg; cases hg
  exact .inr ⟨g, cap, cur, hv, hbg, by rw [hb.block g hlt]; exact hg, r⟩
theorem builderAt_stays {w w' : World} {T e : TypeId} {B b : Nat} {p : Value} {bs : List Value} (h : Lib.BuilderAt T e B b p bs w) (hb : zW w w') : Lib.BuilderAt T e B b p bs w' := by
 have hlt := h.lt;obtain ⟨h1, v, h2, h3, h4⟩ := h;exact ⟨h1, v, by rw [hb.block b hlt]; exact h2, ownsRow_stays h3 hb, h4⟩
theorem builder_stays {w w' : World} {T e : TypeId} {B b : Nat} {bs : List Value} (h : Lib.IsBuilder T e B b bs w) (hb : zW w w') : Lib.IsBuilder T e B b bs w' := by
 rcases h with h | h
 ·exact .inl (builderAt_stays h hb)
 ·exact .inr (builderAt_stays h hb)
theorem builder_new (w : World) (o : Obj) : Lib.IsBuilder 174 5 w.heap.size (w.heap.size + 1) [] ((w.alloc o).alloc (.cells #[.pointer none, zZ] 174)) := by
 refine .inl ⟨by omega, zZ, ?_, ⟨rfl, .inl ⟨rfl, rfl⟩⟩, ?_⟩
 ·rw [show w.heap.size + 1 = (w.alloc o).heap.size from (Array.size_push _).symm]
  exact heap_alloc_last _ _
 ·simp [Value.ownBlock]
end Go.Proofs.YtcbjlbpkoneibaaGreatDoor
namespace Go.Proofs.YtcbjlbpkoneibaaGreatDoor
open Go.RowKit
theorem idx8 (s : St) (k : Nat) (hk : k < 8) (w : World) : (Instr.index 187 (.agg (arrN 8 (stf s))) (zI k)).run Tryz.prog w = .ok (.int .u32 ((stf s k : Nat) : Int)) w := by
 match k, hk with
 | 0, _ => rfl
 | 1, _ => rfl
 | 2, _ => rfl
 | 3, _ => rfl
 | 4, _ => rfl
 | 5, _ => rfl
 | 6, _ => rfl
 | 7, _ => rfl
theorem stf_lt (s : St) (h : s.ok) (k : Nat) : stf s k < 4294967296 := by
 obtain ⟨h1, h2, h3, h4, h5, h6, h7, h8⟩ := h;unfold stf
 split <;> assumption
def bytesTo (s : St) : Nat -> List UInt8
 | 0 => []
 | k + 1 => bytesTo s k ++ four8 (stf s k)
theorem bytesTo_len (s : St) (k : Nat) : (bytesTo s k).length = 4 * k := by
 induction k with
 | zero => rfl
 | succ k ih => rw [bytesTo, List.length_append, ih]; show _ + 4 = _; omega
theorem bytesTo_all (s : St) : bytesTo s 8 = bytesOfSt s := rfl
theorem inBytes_any (s : St) (w : World) (hok : s.ok) : Calls Tryz.prog 173 #[.agg (arrN 8 (stf s))] w fun e w' => e = .returned (zG ⟨(bytesOfSt s).toArray⟩) /\ zW w w' := by
 go_enter Tryz.func173, Tryz.ntmps173;go_wp2_with (refine step_loadRow 187 180 w.heap.size 8 ((Row.new w 187 8 (stf s)).alloc _) rfl rfl rfl Tryz.underlying187 info8 ?_)
 go_loopw [7] (fun iv wr => ∃ k : Nat, k <= 8 /\ iv = zI k /\ Hid (Lib.IsBuilder 174 5 w.heap.size (w.heap.size + 1) (Lib.byteCells (bytesTo s k)) wr /\ zW w wr)) (fun iv _ => 8 - (intOf iv).toNat)
 case atStart => exact ⟨0, by omega, rfl, ⟨builder_new w _, below2 w _ _⟩⟩
 case round =>
  obtain ⟨k, hk, rfl, H⟩ := hrel;by_cases hlt : k < 8
  ·have hidx := idx8 s k hlt
   have hkk : (k : Int) < 8 := by omega
   have hlt2 := stf_lt s hok k;obtain ⟨y, hy⟩ := zE (stf s k);rw [hy] at hlt2;simp only [hy] at hidx;have HY : Hid (stf s k = y) := hy;clear hy;go_wp2_with fail;refine (fourBytes_any y _ hlt2).mono ?_;rintro e w1 ⟨rfl, hb1⟩;have HB1 : Hid (zW wr w1) := hb1;clear hb1;go_wp2_with fail;have HB2 : Hid (zW w w1) := H.2.trans (HB1.mono H.2.size);refine (writeS w.heap.size (w.heap.size + 1) _ (fourB y) _ (builder_stays H.1 HB1.out) (by simp only [Lib.byteCells, List.length_map, bytesTo_len, fourB_size]; omega) HB2.size).mono ?_;rintro e w2 ⟨rfl, hw2, hb2⟩;have H2 : Hid (Lib.IsBuilder 174 5 w.heap.size (w.heap.size + 1) (Lib.byteCells (bytesTo s (k + 1))) w2 /\ zW w w2) := by
    refine ⟨.inr ?_, HB2.trans hb2⟩;have e : Lib.byteCells (bytesTo s (k + 1)) = Lib.byteCells (bytesTo s k) ++ Lib.strCells (fourB y) := by
     rw [bytesTo, HY.out];unfold Lib.byteCells;rw [List.map_append];rfl
    rw [e];exact hw2
   clear H HB1 HB2 hw2 hb2;go_wp2_with fail
   go_roundw
   case rel => exact ⟨k + 1, by omega, by go_num, H2⟩
   case measure => simp [intOf]; omega
  ·have hk8 : k = 8 := by omega
   subst hk8;go_wp2_with (go_at_call 162; refine (Tryz.Builder_String_any w.heap.size (w.heap.size + 1) _ _ H.1 H.2.size).mono ?_; rintro e w2 ⟨rfl, hb2⟩);go_ret;exact ⟨by rw [<- bytesTo_all]; rfl, H.2.trans hb2⟩
def digB (s : ByteArray) : ByteArray := ⟨(digL s.data.toList).toArray⟩
theorem digB_size (s : ByteArray) : (digB s).size = 32 := rfl
theorem padL_len (t : List UInt8) : (padL t).length = t.length + 9 + (64 - (t.length + 9) % 64) % 64 := by
 unfold padL;rw [List.length_append, padTail_len];omega
theorem padB_size (s : ByteArray) : (padB s).size = s.size + 9 + (64 - (s.size + 9) % 64) % 64 := by
 have : (padB s).size = (padL s.data.toList).length := rfl;rw [this, padL_len];rfl
theorem gStart : Tryz.prog.globalNamed "loop.example/g00394/impl.startNumbers" = some 1 := by kernel_rfl
def firstI : List Int := [1779033703, 3144134277, 1013904242, 2773480762, 1359893119, 2600822924, 528734635, 1541459225]
abbrev StartOk (w : World) : Prop := Lib.TabIs Tryz.prog w "loop.example/g00394/impl.startNumbers" .u32 firstI
theorem startBelow {w : World} (h : StartOk w) : ∀ w', zW w w' -> StartOk w' := Lib.tabBelow_of_tabIs h
theorem first_at (j : Nat) (hj : j < 8) : firstI.getD j 0 = ((stf firstN j : Nat) : Int) := by
 match j, hj with
 | 0, _ => rfl
 | 1, _ => rfl
 | 2, _ => rfl
 | 3, _ => rfl
 | 4, _ => rfl
 | 5, _ => rfl
 | 6, _ => rfl
 | 7, _ => rfl
theorem start_cell {w : World} (h : StartOk w) (j : Nat) (hj : j < 8) : w.cell? ⟨1, j, none⟩ = some (.int .u32 ((stf firstN j : Nat) : Int)) := by
 rw [Lib.TabIs.cell h gStart j hj, first_at j hj]
theorem step_loadCells {P : Program} {ops : Array Oper} {rest : List Oper} {op : Oper} {a : Act} {w : World} {Q : Exit -> Act -> World -> Prop} {x : Operand} (ty e : TypeId) (b n : Nat) (f : Nat -> Nat) (h : ∀ j, j < n -> w.cell? ⟨b, j, none⟩ = some (.int .u32 ((f j : Nat) : Int))) (hgd : op.guard = none) (ho : op.op = .load ty x) (hx : a.eval x = .pointer (some ⟨b, 0, none⟩))
  (hu : P.underlying ty = some (.array n e)) (hi : (P.info? ty).map (·.size) = some n) (hk : wpList P ops Q rest (a.put op.dst (.agg (arrN n f))) w) : wpList P ops Q (op :: rest) a w :=
 wpList_load_mid hgd ty x ho b 0 hx ((List.range n).map fun j => Value.int .u32 ((f j : Nat) : Int)) _ (fun j v hv => by
  rw [Nat.zero_add];by_cases hj : j < n
  ·rw [h j hj]
   simpa [hj] using hv
  ·simp [hj] at hv) hu rfl (by simpa using hi) hk
theorem info8s : (Tryz.prog.info? 181).map (·.size) = some 8 := by kernel_rfl
theorem arrN8 (s : St) : arrN 8 (stf s) = #[.int .u32 ((stf s 0 : Nat) : Int), .int .u32 ((stf s 1 : Nat) : Int), .int .u32 ((stf s 2 : Nat) : Int), .int .u32 ((stf s 3 : Nat) : Int), .int .u32 ((stf s 4 : Nat) : Int), .int .u32 ((stf s 5 : Nat) : Int), .int .u32 ((stf s 6 : Nat) : Int), .int .u32 ((stf s 7 : Nat) : Int)] := rfl
theorem after_lit (s : St) (b : ByteArray) (w : World) (hok : s.ok) (hs : b.size = 64) (hT : KeysOk w) : Calls Tryz.prog 172 #[.agg #[.int .u32 ((stf s 0 : Nat) : Int), .int .u32 ((stf s 1 : Nat) : Int), .int .u32 ((stf s 2 : Nat) : Int), .int .u32 ((stf s 3 : Nat) : Int), .int .u32 ((stf s 4 : Nat) : Int), .int .u32 ((stf s 5 : Nat) : Int), .int .u32 ((stf s 6 : Nat) : Int), .int .u32 ((stf s 7 : Nat) : Int)], zG b] w fun e w' => e = .returned (.agg (arrN 8 (stf (blockN s b.data.toList)))) /\ zW w w' := by
 have h := after_any s b w hok hs hT;rw [arrN8 s] at h;exact h
theorem extract_toList (b : ByteArray) (p q : Nat) : (b.extract p q).data.toList = (b.data.toList.drop p).take (q - p) := by
 rw [ByteArray.data_extract];simp [Array.toList_extract, List.extract]
theorem implDigest_any (s : ByteArray) (w : World) (hs : s.size <= 1000000000) (hT : KeysOk w) (hS : StartOk w) : Calls Tryz.prog 139 #[zG s] w fun e w' => e = .returned (zG (digB s)) /\ zW w w' := by
 have HK : Hid (KeysOk w) := hT;have HS : Hid (StartOk w) := hS;clear hT hS;go_enter Tryz.func139, Tryz.ntmps139;go_wp2_with fail;refine (implPad_any s _ (by omega)).mono ?_;rintro e w1 ⟨rfl, hb1⟩;obtain ⟨P0, hP⟩ := zE (padB s);obtain ⟨N, hN⟩ : ∃ N, (padB s).size = 64 * N := ⟨(padB s).size / 64, by rw [padB_size]; omega⟩;have hNl : N <= 100000000 := by have := padB_size s; omega
 rw [hP] at hN;rw [hP];have HP : Hid (padB s = P0 /\ P0.size = 64 * N) := ⟨hP, hN⟩;have hNi : (P0.size : Int) / 64 = (N : Int) := by omega
 have hPl : P0.size <= 6400000000 := by omega
 clear hP hN;have hs1 := startBelow HS.out _ hb1;have HS1 : Hid (StartOk w1 /\ zW w w1) := ⟨hs1, hb1⟩;clear hs1 hb1;go_wp2_with (first | (refine step_loadCells 181 180 1 8 (stf firstN) (fun j hj => start_cell HS1.1 j hj) rfl rfl rfl Tryz.underlying181 info8s ?_) | (refine step_storeRow 187 w1.heap.size 8 (stf firstN) (Row.new w1 187 8 fun _ => 0) rfl rfl rfl rfl rfl info8 ?_; intro W2 HW2));have HF : Hid (Row W2 w1.heap.size 187 8 (stf firstN) /\ zW w W2 /\ w.heap.size <= w1.heap.size) := by
  have hW2 := HW2.out;subst hW2;have hsz := HS1.2.size;exact ⟨Row.setRow (Row.new w1 187 8 fun _ => 0), below_setRow (HS1.2.alloc hsz _) hsz _, hsz⟩
 clear HW2 HS1;obtain ⟨c, hc⟩ := zE (w1.heap.size);rw [hc] at HF
 try rw [hc]
 clear hc
 go_loopw [12] (fun iv wr => ∃ k : Nat, k <= N /\ iv = zI k /\ Hid (Row wr c 187 8 (stf (blocksN firstN P0.data.toList k)) /\ zW w wr)) (fun iv _ => N - (intOf iv).toNat)
 case atStart => exact ⟨0, by omega, rfl, ⟨HF.1, HF.2.1⟩⟩
 case round =>
  have HC : Hid (w.heap.size <= c) := HF.2.2;clear HF;obtain ⟨k, hk, rfl, H⟩ := hrel;by_cases hlt : k < N
  ·obtain ⟨x, hx⟩ := zE (blocksN firstN P0.data.toList k)
   have hok : x.ok := by rw [<- hx]; exact blocksN_ok _ _ firstN_ok
   have hcs := fun j hj => H.1.cell j hj
   simp only [hx] at hcs;have c0 := hcs 0 (by decide);have c1 := hcs 1 (by decide);have c2 := hcs 2 (by decide);have c3 := hcs 3 (by decide);have c4 := hcs 4 (by decide);have c5 := hcs 5 (by decide);have c6 := hcs 6 (by decide);have c7 := hcs 7 (by decide);clear hcs;obtain ⟨p, hp⟩ := zE (k * 64);obtain ⟨q, hq⟩ := zE ((k + 1) * 64);have hpi : IntKind.i64.wrap ((k : Int) * 64) = (p : Int) := by rw [IntWalk.i64_in _ (by omega)]; omega
   have hqi : IntKind.i64.wrap (((k : Int) + 1) * 64) = (q : Int) := by rw [IntWalk.i64_in _ (by omega)]; omega
   have hki : IntKind.i64.wrap ((k : Int) + 1) = (k : Int) + 1 := IntWalk.i64_in _ (by omega);have hN2 := HP.2;have b1 : (p : Int) <= (q : Int) := by omega
   have b2 : (q : Int) <= (P0.size : Int) := by omega
   have b3 : (0 : Int) <= (p : Int) := by omega
   have b4 : (0 : Int) <= (q : Int) := by omega
   clear hN2;go_wp2_with fail
   go_still_tail 8, (by kernel_rfl)
   clear c0 c1 c2 c3 c4 c5 c6 c7;change wpList _ _ _ _ _ wr.drew;have hsz : (P0.extract p q).size = 64 := by rw [ByteArray.size_extract]; omega
   have hkk := keysBelow HK.out _ H.2.drew;have HA := after_lit x (P0.extract p q) wr.drew hok hsz hkk;have HE : Hid (blockN x (P0.extract p q).data.toList = blocksN firstN P0.data.toList (k + 1)) := by
    show _ = _;rw [blocksN, hx, extract_toList, <- hp, <- hq, Nat.mul_comm k 64, show (k + 1) * 64 - 64 * k = 64 by omega]
   have HL : Hid (c < wr.heap.size) := (Array.getElem?_eq_some_iff.1 H.1).1;have HR : Hid (Row wr.drew c 187 8 (stf (blocksN firstN P0.data.toList k)) /\ zW w wr.drew) := ⟨H.1, H.2.drew⟩;clear H hkk hx;obtain ⟨y, hy⟩ := zE (blockN x (P0.extract p q).data.toList);rw [hy] at HA HE;clear hy;go_wp2_with (first | (go_at_call 172; refine HA.mono ?_; rintro e w2 ⟨rfl, hb2⟩) | (refine step_storeRow 187 c 8 (stf y) (Row.below HR.1 hb2 HL.out) rfl rfl rfl rfl rfl info8 ?_; intro W3 HW3));have H2 : Hid (Row W3 c 187 8 (stf (blocksN firstN P0.data.toList (k + 1))) /\ zW w W3) := by
    have hW3 := HW3.out;subst hW3;rw [<- HE.out];exact ⟨Row.setRow (Row.below HR.1 hb2 HL.out), below_setRow (HR.2.trans (hb2.mono HR.2.size)) HC.out _⟩
   clear HA HW3 hb2 HR HE HL;go_wp2_with fail
   go_roundw
   case rel => exact ⟨k + 1, by omega, by go_num, H2⟩
   case measure => simp [intOf]; omega
  ·have hkN : k = N := by omega
   subst hkN;have hN2 := HP.2;have HD : Hid (bytesOfSt (blocksN firstN P0.data.toList k) = digL s.data.toList) := by
    show _ = bytesOfSt (blocksN firstN (padL s.data.toList) ((padL s.data.toList).length / 64));have e1 : P0.data.toList = padL s.data.toList := by rw [<- HP.1]; rfl
    have e2 : (padL s.data.toList).length = 64 * k := by rw [<- e1]; exact hN2
    rw [e1, e2, Nat.mul_div_cancel_left k (by decide)]
   have hok : (blocksN firstN P0.data.toList k).ok := blocksN_ok _ _ firstN_ok;obtain ⟨y, hy⟩ := zE (blocksN firstN P0.data.toList k);rw [hy] at H HD hok;clear hy hN2;go_wp2_with (first | (refine step_loadRow 187 180 c 8 H.1 rfl rfl rfl Tryz.underlying187 info8 ?_) | (go_at_call 173; refine (inBytes_any y _ hok).mono ?_; rintro e w2 ⟨rfl, hb2⟩));go_ret;exact ⟨by rw [HD.out]; rfl, H.2.trans (hb2.mono H.2.size)⟩
theorem firstS_any (w : World) : Calls Tryz.prog 163 #[] w fun e w' => e = .returned (.agg (arrN 8 (stf firstN))) /\ zW w w' := by
 go_enter Tryz.func163, Tryz.ntmps163
 go_wp2
 have hrow := Row.new w 181 8 (stf firstN);refine bodyPost_ret (v := .agg (arrN 8 (stf firstN))) ?_ rfl ⟨rfl, (Below.refl _ _).alloc (Nat.le_refl _) _⟩;exact results_cell_row rfl _ _ w.heap.size _ (arrN 8 (stf firstN)) (0, 0) _ rfl hrow Tryz.underlying181 rfl (by rw [arrN_size]; exact info8s)
theorem still_loadRow {P : Program} {ops : Array Oper} {rest : List Oper} {op : Oper} {a : Act} {w : World} {Q : Act -> Prop} {x : Operand} (ty e : TypeId) (b n : Nat) {t : TypeId} {f : Nat -> Nat} (h : Row w b t n f) (hgd : op.guard = none) (ho : op.op = .load ty x) (hx : a.eval x = .pointer (some ⟨b, 0, none⟩))
  (hu : P.underlying ty = some (.array n e)) (hi : (P.info? ty).map (·.size) = some n) (hk : wpStill P ops w Q rest (a.put op.dst (.agg (arrN n f)))) : wpStill P ops w Q (op :: rest) a := by
 refine wpStill_step fun K hK => ?_
 have hl := h.load hu hi;simp only [Region.wanted, hgd, if_true];unfold Oper.still execOp;simp only [ho, hx, Instr.loadAt, Instr.sureAddr, Sem.run_bind, Sem.run_pure, Result.andThen_ok, hl];exact ⟨rfl, hK _ hk⟩
def arrB (n : Nat) (f : Nat -> Nat) : Array Value := ((List.range n).map fun j => Value.int .u8 ((f j : Nat) : Int)).toArray
theorem arrB_size (n : Nat) (f : Nat -> Nat) : (arrB n f).size = n := by simp [arrB]
theorem arrB_get (n : Nat) (f : Nat -> Nat) (j : Nat) (h : j < n) : (arrB n f)[j]? = some (.int .u8 ((f j : Nat) : Int)) := by simp [arrB, h]
theorem arrB_set (n : Nat) (f : Nat -> Nat) (k v : Nat) : (arrB n f).setIfInBounds k (.int .u8 ((v : Nat) : Int)) = arrB n (upd f k v) := by
 apply Array.ext_getElem?;intro i;rw [Array.getElem?_setIfInBounds];by_cases hi : i < n
 ·rw [arrB_get n (upd f k v) i hi]
  by_cases hk : k = i
  ·subst hk
   rw [if_pos rfl, if_pos (by rw [arrB_size]; exact hi), upd_same]
  ·rw [if_neg hk, arrB_get n f i hi, upd_other f v (fun e => hk e.symm)]
 ·have h1 : (arrB n (upd f k v))[i]? = none := by rw [Array.getElem?_eq_none_iff, arrB_size]; omega
  have h2 : (arrB n f)[i]? = none := by rw [Array.getElem?_eq_none_iff, arrB_size]; omega
  rw [h1, h2]
  split
  ·rw [if_neg (by rw [arrB_size]; omega)]
  ·rfl
def RowB (w : World) (b n : Nat) (f : Nat -> Nat) : Prop := w.heap[b]? = some (.cells (arrB n f) 5 (0, 0))
theorem RowB.cell {w : World} {b n : Nat} {f : Nat -> Nat} (h : RowB w b n f) (j : Nat) (hj : j < n) : w.cell? ⟨b, j, none⟩ = some (.int .u8 ((f j : Nat) : Int)) := by
 rw [cell_of_row w b j _ 5 _ h, arrB_get n f j hj]
theorem RowB.free {w : World} {b n : Nat} {f : Nat -> Nat} (h : RowB w b n f) (j : Nat) : w.frozen? ⟨b, j, none⟩ = false := by
 have h' : w.heap[b]? = some (.cells (arrB n f) 5 (0, 0)) := h;simp [World.frozen?, h']
theorem RowB.set {w : World} {b n : Nat} {f : Nat -> Nat} (h : RowB w b n f) (k v : Nat) : RowB (w.setCell ⟨b, k, none⟩ (.int .u8 ((v : Nat) : Int))) b n (upd f k v) := by
 show _ = _;rw [heap_setCell_same w b k _ 5 _ h, arrB_set]
theorem four8_at (y j : Nat) (hj : j < 4) : ((four8 y).getD j 0).toNat = y / 2 ^ (8 * (3 - j)) % 256 := by
 match j, hj with
 | 0, _ => show (UInt8.ofNat _).toNat = _; rw [UInt8.toNat_ofNat']; omega
 | 1, _ => show (UInt8.ofNat _).toNat = _; rw [UInt8.toNat_ofNat']; omega
 | 2, _ => show (UInt8.ofNat _).toNat = _; rw [UInt8.toNat_ofNat']; omega
 | 3, _ => show (UInt8.ofNat _).toNat = _; rw [UInt8.toNat_ofNat']; omega
theorem bytesTo_at (x : St) (k : Nat) (f : Nat -> Nat) (y : Nat) (hy : stf x k = y) (hf : ∀ j, j < 4 * k -> f j = ((bytesTo x k).getD j 0).toNat) (j : Nat) (hj : j < 4 * (k + 1)) :
  upd (upd (upd (upd f (4 * k) (y / 16777216 % 256)) (4 * k + 1) (y / 65536 % 256)) (4 * k + 2) (y / 256 % 256)) (4 * k + 3) (y % 256) j = ((bytesTo x (k + 1)).getD j 0).toNat := by
 have hl := bytesTo_len x k;rw [bytesTo, hy];by_cases h : j < 4 * k
 ·rw [upd_other _ _ (by omega), upd_other _ _ (by omega), upd_other _ _ (by omega), upd_other _ _ (by omega), hf j h, List.getD_eq_getElem?_getD, List.getD_eq_getElem?_getD, List.getElem?_append_left (by omega)]
 ·obtain ⟨i, hi⟩ : ∃ i, j = 4 * k + i := ⟨j - 4 * k, by omega⟩
  subst hi;rw [List.getD_eq_getElem?_getD, List.getElem?_append_right (by omega), show 4 * k + i - (bytesTo x k).length = i by omega, <- List.getD_eq_getElem?_getD, four8_at y i (by omega)];have hc : i = 0 ∨ i = 1 ∨ i = 2 ∨ i = 3 := by omega
  rcases hc with rfl | rfl | rfl | rfl
  ·rw [upd_other _ _ (by omega), upd_other _ _ (by omega), upd_other _ _ (by omega), Nat.add_zero, upd_same]
  ·rw [upd_other _ _ (by omega), upd_other _ _ (by omega), upd_same]
  ·rw [upd_other _ _ (by omega), upd_same]
  ·rw [upd_same]; simp
theorem specDigest_any (s : ByteArray) (w : World) (hs : s.size <= 1000000000) : Calls Tryz.prog 132 #[zG s] w fun e w' => e = .returned (zG (digB s)) /\ zW w w' := by
 go_enter Tryz.func132, Tryz.ntmps132;go_wp2_with (first | (go_at_call 163; refine (firstS_any _).mono ?_; rintro e w1 ⟨rfl, hb1⟩) | (refine step_storeRow 181 w1.heap.size 8 (stf firstN) (Row.new w1 181 8 fun _ => 0) rfl rfl rfl rfl rfl info8s ?_; intro W2 HW2) | (go_at_call 164; refine (keys_any _).mono ?_; rintro e w3 ⟨rfl, hb3⟩) | (refine step_storeRow 183 w3.heap.size 64 keyf (Row.new w3 183 64 fun _ => 0) rfl rfl rfl rfl rfl info64 ?_; intro W4 HW4) | (go_at_call 165; refine (specPad_any s _ hs).mono ?_; rintro e w5 ⟨rfl, hb5⟩));have HF : Hid (Row w5 w1.heap.size 181 8 (stf firstN) /\ Row w5 w3.heap.size 183 64 keyf /\ zW w w5 /\ w.heap.size <= w1.heap.size /\ w1.heap.size < w3.heap.size /\ w3.heap.size < w5.heap.size) := by
  have h2 := HW2.out;have h4 := HW4.out;have r2 : Row W2 w1.heap.size 181 8 (stf firstN) := by rw [h2]; exact Row.setRow (Row.new w1 181 8 fun _ => 0)
  have z2 : W2.heap.size = w1.heap.size + 1 := by rw [h2, size_setRow, sizeA]
  have z4 : W4.heap.size = w3.heap.size + 1 := by rw [h4, size_setRow, sizeA]
  have s1 := hb1.size;have s3 := hb3.size;have s5 := hb5.size;have b2 : zW w W2 := by rw [h2]; exact below_setRow (hb1.alloc hb1.size _) hb1.size _
  have b3 : zW w w3 := b2.trans (hb3.mono (by omega));have b4 : zW w W4 := by rw [h4]; exact below_setRow (b3.alloc (by omega) _) (by omega) _
  have r3 : Row w3 w1.heap.size 181 8 (stf firstN) := r2.below hb3 (by omega);have r4 : Row W4 w1.heap.size 181 8 (stf firstN) := by rw [h4]; exact (r3.alloc _).setRow_other _ _ (by omega)
  have k4 : Row W4 w3.heap.size 183 64 keyf := by rw [h4]; exact Row.setRow (Row.new w3 183 64 fun _ => 0)
  exact ⟨r4.below hb5 (by omega), k4.below hb5 (by omega), b4.trans (hb5.mono (by omega)), s1, by omega, by omega⟩
 clear HW2 HW4 hb1 hb3 hb5;obtain ⟨c, hc⟩ := zE (w1.heap.size);obtain ⟨d, hd⟩ := zE (w3.heap.size);rw [hc, hd] at HF;rw [hc, hd];clear hc hd;obtain ⟨P0, hP⟩ := zE (padB s);obtain ⟨N, hN⟩ : ∃ N, (padB s).size = 64 * N := ⟨(padB s).size / 64, by rw [padB_size]; omega⟩;have hNl : N <= 100000000 := by have := padB_size s; omega
 rw [hP] at hN;rw [hP];have HP : Hid (padB s = P0 /\ P0.size = 64 * N) := ⟨hP, hN⟩;have hPl : P0.size <= 6400000000 := by omega
 clear hP hN
 go_loopw [6] (fun iv wr => ∃ k : Nat, k <= N /\ iv = zI (64 * (k : Int)) /\ Hid (Row wr c 181 8 (stf (blocksN firstN P0.data.toList k)) /\ Row wr d 183 64 keyf /\ zW w wr)) (fun iv _ => P0.size - (intOf iv).toNat)
 case atStart => exact ⟨0, by omega, rfl, ⟨HF.1, HF.2.1, HF.2.2.1⟩⟩
 case round =>
  have HC : Hid (w.heap.size <= c /\ c < d) := ⟨HF.2.2.2.1, HF.2.2.2.2.1⟩;clear HF;obtain ⟨k, hk, rfl, H⟩ := hrel;have hN2 := HP.2;by_cases hlt : k < N
  ·obtain ⟨x, hx⟩ := zE (blocksN firstN P0.data.toList k)
   have hok : x.ok := by rw [<- hx]; exact blocksN_ok _ _ firstN_ok
   obtain ⟨p, hp⟩ := zE (64 * k);obtain ⟨q, hq⟩ := zE (64 * k + 64);have hpi : (64 : Int) * (k : Int) = (p : Int) := by omega
   have hqi : IntKind.i64.wrap ((p : Int) + 64) = (q : Int) := by rw [IntWalk.i64_in _ (by omega)]; omega
   have b1 : (p : Int) <= (q : Int) := by omega
   have b2 : (q : Int) <= (P0.size : Int) := by omega
   have b3 : (0 : Int) <= (p : Int) := by omega
   have b4 : (0 : Int) <= (q : Int) := by omega
   have b5 : (p : Int) < (P0.size : Int) := by omega
   have hsz : (P0.extract p q).size = 64 := by rw [ByteArray.size_extract]; omega
   have HE : Hid (blockN x (P0.extract p q).data.toList = blocksN firstN P0.data.toList (k + 1)) := by
    show _ = _;rw [blocksN, hx, extract_toList, <- hp, <- hq, show 64 * k + 64 - 64 * k = 64 by omega]
   have HB := block_any x (P0.extract p q) wr.drew hok hsz;have HR : Hid (Row wr.drew c 181 8 (stf x) /\ Row wr.drew d 183 64 keyf /\ zW w wr.drew /\ c < wr.heap.size /\ d < wr.heap.size) := ⟨hx ▸ H.1, H.2.1, H.2.2.drew, (Array.getElem?_eq_some_iff.1 H.1).1, (Array.getElem?_eq_some_iff.1 H.2.1).1⟩;have HQ : Hid (64 * k = p /\ p + 64 = q) := ⟨hp, by omega⟩;rw [hpi];clear H hx hp hq hpi hN2;obtain ⟨y, hy⟩ := zE (blockN x (P0.extract p q).data.toList);rw [hy] at HB HE;clear hy hsz;go_wp2_with fail;refine wp_region_still_tail 7 (by kernel_rfl) (by kernel_rfl) ?_;simp only [List.take_succ_cons, List.take_zero, List.drop_succ_cons, List.drop_zero];refine still_loadRow 181 180 c 8 HR.1 rfl rfl rfl Tryz.underlying181 info8z ?_
   iterate 5 still_step
   refine still_loadRow 183 180 d 64 HR.2.1 rfl rfl rfl Tryz.underlying183 info64 ?_;refine wpStill_nil ?_;change wpList _ _ _ _ _ wr.drew;go_wp2_with (first | (go_at_call 166; refine HB.mono ?_; rintro e w2 ⟨rfl, hb2⟩) | (refine step_storeRow 181 c 8 (stf y) (Row.below HR.1 hb2 HR.2.2.2.1) rfl rfl rfl rfl rfl info8z ?_; intro W3 HW3));have H2 : Hid (Row W3 c 181 8 (stf (blocksN firstN P0.data.toList (k + 1))) /\ Row W3 d 183 64 keyf /\ zW w W3) := by
    have hW3 := HW3.out;have hc := HC.out;have hr := HR.out;subst hW3;rw [<- HE.out];exact ⟨Row.setRow (Row.below hr.1 hb2 hr.2.2.2.1), (hr.2.1.below hb2 hr.2.2.2.2).setRow_other _ _ (by omega), below_setRow (hr.2.2.1.trans (hb2.mono hr.2.2.1.size)) hc.1 _⟩
   clear HB HW3 hb2 HR HE
   go_roundw
   case rel => exact ⟨k + 1, by omega, by have := HQ.out; congr 1; omega, H2⟩
   case measure => have := HQ.out; simp [intOf]; omega
  ·have hkN : k = N := by omega
   subst hkN;have HD : Hid (bytesOfSt (blocksN firstN P0.data.toList k) = digL s.data.toList) := by
    show _ = bytesOfSt (blocksN firstN (padL s.data.toList) ((padL s.data.toList).length / 64));have e1 : P0.data.toList = padL s.data.toList := by rw [<- HP.1]; rfl
    have e2 : (padL s.data.toList).length = 64 * k := by rw [<- e1]; exact hN2
    rw [e1, e2, Nat.mul_div_cancel_left k (by decide)]
   have hok : (blocksN firstN P0.data.toList k).ok := blocksN_ok _ _ firstN_ok;obtain ⟨x, hx⟩ := zE (blocksN firstN P0.data.toList k);rw [hx] at H HD hok;have hnlt : ¬ (64 * (k : Int) < (P0.size : Int)) := by omega
   have hmk : ∀ w, (Instr.makeSlice 22 (zI 32) (zI 32)).run Tryz.prog w = .ok (zS (some ⟨w.heap.size, 0, none⟩) 32 32) (w.alloc (.cells #[.int .u8 0, .int .u8 0, .int .u8 0, .int .u8 0, .int .u8 0, .int .u8 0, .int .u8 0, .int .u8 0, .int .u8 0, .int .u8 0, .int .u8 0, .int .u8 0, .int .u8 0, .int .u8 0, .int .u8 0, .int .u8 0, .int .u8 0, .int .u8 0, .int .u8 0, .int .u8 0, .int .u8 0, .int .u8 0, .int .u8 0, .int .u8 0, .int .u8 0, .int .u8 0, .int .u8 0, .int .u8 0, .int .u8 0, .int .u8 0, .int .u8 0, .int .u8 0] 5)) := fun _ => by kernel_rfl
   clear hx hN2;go_wp2_with fail;clear hmk hnlt;have HG : Hid (RowB (wr.alloc (.cells (arrB 32 fun _ => 0) 5)) wr.heap.size 32 (fun _ => 0) /\ Row (wr.alloc (.cells (arrB 32 fun _ => 0) 5)) c 181 8 (stf x) /\ zW w (wr.alloc (.cells (arrB 32 fun _ => 0) 5)) /\ c < wr.heap.size /\ w.heap.size <= wr.heap.size) :=
    ⟨heap_alloc_last _ _, H.1.alloc _, H.2.2.alloc H.2.2.size _, (Array.getElem?_eq_some_iff.1 H.1).1, H.2.2.size⟩
   obtain ⟨g, hg⟩ := zE (wr.heap.size);rw [hg] at HG;rw [hg];clear hg H
   go_loopw [8] (fun iv wv => ∃ (j : Nat) (f : Nat -> Nat), j <= 8 /\ iv = zI j /\ Hid ((∀ i, i < 4 * j -> f i = ((bytesTo x j).getD i 0).toNat) /\ RowB wv g 32 f /\ Row wv c 181 8 (stf x) /\ zW w wv)) (fun iv _ => 8 - (intOf iv).toNat)
   case atStart => exact ⟨0, fun _ => 0, by omega, rfl, ⟨fun i hi => by omega, HG.1, HG.2.1, HG.2.2.1⟩⟩
   case round =>
    have hcg : c ≠ g := by have := HG.2.2.2.1; omega
    have hgc : g ≠ c := by have := HG.2.2.2.1; omega
    have HW : Hid (w.heap.size <= g) := HG.2.2.2.2;clear HG;obtain ⟨j, f, hj, rfl, H⟩ := hrel;by_cases hlt4 : j < 8
    ·have hj0 : (0 : Int) <= (j : Int) := by omega
     have hj1 : (j : Int) < 8 := by omega
     have hyl := stf_lt x hok j;obtain ⟨y, hy⟩ := zE (stf x j);have cy := H.2.2.1.cell j hlt4;rw [hy] at cy hyl;obtain ⟨p0, e0⟩ := zE (4 * j);obtain ⟨p1, e1⟩ := zE (p0 + 1);obtain ⟨p2, e2⟩ := zE (p0 + 2);obtain ⟨p3, e3⟩ := zE (p0 + 3);have w0 : (4 : Int) * (j : Int) = (p0 : Int) := by omega
     have w1 : (p0 : Int) + 1 = (p1 : Int) := by omega
     have w2 : (p0 : Int) + 2 = (p2 : Int) := by omega
     have w3 : (p0 : Int) + 3 = (p3 : Int) := by omega
     have l0 : p0 < 32 := by omega
     have l1 : p1 < 32 := by omega
     have l2 : p2 < 32 := by omega
     have l3 : p3 < 32 := by omega
     have c0 := H.2.1.cell p0 l0;have c1 := H.2.1.cell p1 l1;have c2 := H.2.1.cell p2 l2;have c3 := H.2.1.cell p3 l3;have f0 := H.2.1.free p0;have f1 := H.2.1.free p1;have f2 := H.2.1.free p2;have f3 := H.2.1.free p3;have n1 : p1 ≠ p0 := by omega
     have n2 : p2 ≠ p0 := by omega
     have n3 : p3 ≠ p0 := by omega
     have n4 : p2 ≠ p1 := by omega
     have n5 : p3 ≠ p1 := by omega
     have n6 : p3 ≠ p2 := by omega
     obtain ⟨b0, d0⟩ := zE (y / 16777216 % 256);obtain ⟨b1, d1⟩ := zE (y / 65536 % 256);obtain ⟨b2, d2⟩ := zE (y / 256 % 256);obtain ⟨b3, d3⟩ := zE (y % 256);have i0 : (y : Int) / 16777216 = (b0 : Int) := by omega
     have i1 : (y : Int) / 65536 % 256 = (b1 : Int) := by omega
     have i2 : (y : Int) / 256 % 256 = (b2 : Int) := by omega
     have i3 : (y : Int) % 256 = (b3 : Int) := by omega
     have HZ : Hid (∀ i, i < 4 * (j + 1) -> upd (upd (upd (upd f p0 b0) p1 b1) p2 b2) p3 b3 i = ((bytesTo x (j + 1)).getD i 0).toNat) := by
      intro i hi;have := bytesTo_at x j f y hy H.1 i hi;rw [e0, e1, e2, e3, d0, d1, d2, d3] at this;exact this
     clear e0 e1 e2 e3 d0 d1 d2 d3 hy;go_wp2_with fail
     go_roundw
     case rel =>
      have hw := HW.out;have h := H.out;exact ⟨j + 1, upd (upd (upd (upd f p0 b0) p1 b1) p2 b2) p3 b3, by omega, by go_num, ⟨HZ.out, (((h.2.1.set p0 b0).set p1 b1).set p2 b2).set p3 b3, (((h.2.2.1.other _ _ hcg).other _ _ hcg).other _ _ hcg).other _ _ hcg, (((h.2.2.2.setCell (p := ⟨g, p0, none⟩) hw _).setCell (p := ⟨g, p1, none⟩) hw _).setCell (p := ⟨g, p2, none⟩) hw _).setCell (p := ⟨g, p3, none⟩) hw _⟩⟩
     case measure => simp [intOf]; omega
    ·have hj8 : j = 8 := by omega
     subst hj8;have hl8 := bytesTo_len x 8;have hcv := run_convert_bytes_back (P := Tryz.prog) wr 22 9 5 ⟨g, 0, none⟩ 32 (bytesTo x 8) Tryz.underlying22 Tryz.underlying5 Tryz.underlying9 (fun i hi => by
      rw [show (⟨g, 0, none⟩ : Addr).add i = ⟨g, i, none⟩ by unfold Addr.add; split <;> simp_all, H.2.1.cell i (by omega), H.1 i (by omega), List.getD_eq_getElem?_getD, List.getElem?_eq_getElem hi]
      rfl)
     rw [hl8] at hcv;clear hl8;go_wp2_with fail;go_ret;exact ⟨by rw [bytesTo_all, HD.out]; rfl, H.2.2.2⟩
theorem tabIs_of_reads {P : Program} {W : World} {name : String} {k : IntKind} {zs : List Int} {g : Nat} {t e : TypeId} {n : Nat}
  (hg : P.globalNamed name = some g) (hty : (P.globals[g]?).map (·.type) = some t) (ht : P.underlying t = some (.array n e)) (he : P.underlying e = some (.int k)) (hce : P.cellsOf e = 1) (hct : P.cellsOf t = n)
  (h : Lib.VarReads P W name (Lib.tabData k zs)) : Lib.TabIs P W name k zs := by
 obtain ⟨g', t', cs, fuel, p, hg', ht', hvar, hd⟩ := h;obtain rfl := Option.some.inj (hg.symm.trans hg');obtain rfl := Option.some.inj (hty.symm.trans ht');unfold Lib.TabIs;rw [hvar, <- Lib.cells_of_tab ht he hce hct hd]
theorem keysType : (Tryz.prog.globals[2]?).map (·.type) = some 183 := by kernel_rfl
theorem startType : (Tryz.prog.globals[1]?).map (·.type) = some 181 := by kernel_rfl
theorem cells64 : Tryz.prog.cellsOf 183 = 64 := by kernel_rfl
theorem cells8D : Tryz.prog.cellsOf 181 = 8 := by kernel_rfl
theorem cellsU32 : Tryz.prog.cellsOf 180 = 1 := by kernel_rfl
end Go.Proofs.YtcbjlbpkoneibaaGreatDoor
