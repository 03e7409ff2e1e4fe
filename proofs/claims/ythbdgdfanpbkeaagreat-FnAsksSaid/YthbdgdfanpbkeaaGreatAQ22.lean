/-
  Texts of the proof.
-/
import Derived.Test.YthbdgdfanpbkeaaGreatShelf
import Derived.Deep.WholeRow
import Derived.StillTailTactics
import Derived.Lib.LaidU8
import Derived.Test.YthbdgdfanpbkeaaGreatAQ21
set_option maxRecDepth 100000
set_option maxHeartbeats 25600000
namespace Go.Proofs.YthbdgdfanpbkeaaGreat
open Go.RowKit
theorem stf_lt (s : St) (h : s.ok) (k : Nat) : stf s k < 4294967296 := by
 obtain ⟨h1, h2, h3, h4, h5, h6, h7, h8⟩ := h
 unfold stf
 split <;> assumption
def bytesTo (s : St) : Nat -> List UInt8
 | 0 => []
 | k + 1 => bytesTo s k ++ four8 (stf s k)
theorem bytesTo_len (s : St) (k : Nat) : (bytesTo s k).length = 4 * k := by
 induction k with
 | zero => rfl
 | succ k ih => rw [bytesTo, List.length_append, ih]; show _ + 4 = _; omega
theorem bytesTo_all (s : St) : bytesTo s 8 = bytesOfSt s := rfl
def digB (s : ByteArray) : ByteArray := ⟨(digL s.data.toList).toArray⟩
theorem digB_size (s : ByteArray) : (digB s).size = 32 := rfl
theorem padL_len (t : List UInt8) : (padL t).length = t.length + 9 + (64 - (t.length + 9) % 64) % 64 := by
 unfold padL
 rw [List.length_append, padTail_len]
 omega
theorem padB_size (s : ByteArray) : (padB s).size = s.size + 9 + (64 - (s.size + 9) % 64) % 64 := by
 have : (padB s).size = (padL s.data.toList).length := rfl
 rw [this, padL_len]
 rfl
theorem info8s : (Tryz.prog.info? 144).map (·.size) = some 8 := by kernel_rfl
theorem extract_toList (b : ByteArray) (p q : Nat) : (b.extract p q).data.toList = (b.data.toList.drop p).take (q - p) := by
 rw [ByteArray.data_extract]
 simp [Array.toList_extract, List.extract]
theorem firstS_any (w : World) : Calls Tryz.prog 125 #[] w fun e w' => e = .returned (.agg (arrN 8 (stf firstN))) /\ Below w.heap.size w w' := by
 go_enter Tryz.func125, Tryz.ntmps125
 go_wp2
 have hrow := Row.new w 144 8 (stf firstN)
 refine bodyPost_ret (v := .agg (arrN 8 (stf firstN))) ?_ rfl ⟨rfl, (Below.refl _ _).alloc (Nat.le_refl _) _⟩
 exact results_cell_row rfl _ _ w.heap.size _ (arrN 8 (stf firstN)) (0, 0) _ rfl hrow Tryz.underlying144 rfl (by rw [arrN_size]; exact info8s)
theorem still_loadRow {P : Program} {ops : Array Oper} {rest : List Oper} {op : Oper} {a : Act} {w : World} {Q : Act -> Prop} {x : Operand} (ty e : TypeId) (b n : Nat) {t : TypeId} {f : Nat -> Nat} (h : Row w b t n f) (hgd : op.guard = none) (ho : op.op = .load ty x) (hx : a.eval x = .pointer (some ⟨b, 0, none⟩))
  (hu : P.underlying ty = some (.array n e)) (hi : (P.info? ty).map (·.size) = some n) (hk : wpStill P ops w Q rest (a.put op.dst (.agg (arrN n f)))) : wpStill P ops w Q (op :: rest) a := by
 refine wpStill_step fun K hK => ?_
 have hl := h.load hu hi
 simp only [Region.wanted, hgd, if_true]
 unfold Oper.still execOp
 simp only [ho, hx, Instr.loadAt, Instr.sureAddr, Sem.run_bind, Sem.run_pure, Result.andThen_ok, hl]
 exact ⟨rfl, hK _ hk⟩
def arrB (n : Nat) (f : Nat -> Nat) : Array Value := ((List.range n).map fun j => Value.int .u8 ((f j : Nat) : Int)).toArray
theorem arrB_size (n : Nat) (f : Nat -> Nat) : (arrB n f).size = n := by simp [arrB]
theorem arrB_get (n : Nat) (f : Nat -> Nat) (j : Nat) (h : j < n) : (arrB n f)[j]? = some (.int .u8 ((f j : Nat) : Int)) := by simp [arrB, h]
theorem arrB_set (n : Nat) (f : Nat -> Nat) (k v : Nat) : (arrB n f).setIfInBounds k (.int .u8 ((v : Nat) : Int)) = arrB n (upd f k v) := by
 apply Array.ext_getElem?
 intro i
 rw [Array.getElem?_setIfInBounds]
 by_cases hi : i < n
 ·rw [arrB_get n (upd f k v) i hi]
  by_cases hk : k = i
  ·subst hk
   rw [if_pos rfl, if_pos (by rw [arrB_size]; exact hi), upd_same]
  ·rw [if_neg hk, arrB_get n f i hi, upd_other f v (fun e => hk e.symm)]
 ·have h1 : (arrB n (upd f k v))[i]? = none := by rw [Array.getElem?_eq_none_iff, arrB_size]; omega
  have h2 : (arrB n f)[i]? = none := by rw [Array.getElem?_eq_none_iff, arrB_size]; omega
  rw [h1, h2]
  split
  ·rw [if_neg (by rw [arrB_size]; omega)]
  ·rfl
def RowB (w : World) (b n : Nat) (f : Nat -> Nat) : Prop := w.heap[b]? = some (.cells (arrB n f) 5 (0, 0))
theorem RowB.cell {w : World} {b n : Nat} {f : Nat -> Nat} (h : RowB w b n f) (j : Nat) (hj : j < n) : w.cell? ⟨b, j, none⟩ = some (.int .u8 ((f j : Nat) : Int)) := by
 rw [cell_of_row w b j _ 5 _ h, arrB_get n f j hj]
theorem RowB.free {w : World} {b n : Nat} {f : Nat -> Nat} (h : RowB w b n f) (j : Nat) : w.frozen? ⟨b, j, none⟩ = false := by
 have h' : w.heap[b]? = some (.cells (arrB n f) 5 (0, 0)) := h
 simp [World.frozen?, h']
theorem RowB.set {w : World} {b n : Nat} {f : Nat -> Nat} (h : RowB w b n f) (k v : Nat) : RowB (w.setCell ⟨b, k, none⟩ (.int .u8 ((v : Nat) : Int))) b n (upd f k v) := by
 show _ = _
 rw [heap_setCell_same w b k _ 5 _ h, arrB_set]
theorem four8_at (y j : Nat) (hj : j < 4) : ((four8 y).getD j 0).toNat = y / 2 ^ (8 * (3 - j)) % 256 := by
 match j, hj with
 | 0, _ => show (UInt8.ofNat _).toNat = _; rw [UInt8.toNat_ofNat']; omega
 | 1, _ => show (UInt8.ofNat _).toNat = _; rw [UInt8.toNat_ofNat']; omega
 | 2, _ => show (UInt8.ofNat _).toNat = _; rw [UInt8.toNat_ofNat']; omega
 | 3, _ => show (UInt8.ofNat _).toNat = _; rw [UInt8.toNat_ofNat']; omega
theorem bytesTo_at (x : St) (k : Nat) (f : Nat -> Nat) (y : Nat) (hy : stf x k = y) (hf : ∀ j, j < 4 * k -> f j = ((bytesTo x k).getD j 0).toNat) (j : Nat) (hj : j < 4 * (k + 1)) :
  upd (upd (upd (upd f (4 * k) (y / 16777216 % 256)) (4 * k + 1) (y / 65536 % 256)) (4 * k + 2) (y / 256 % 256)) (4 * k + 3) (y % 256) j = ((bytesTo x (k + 1)).getD j 0).toNat := by
 have hl := bytesTo_len x k
 rw [bytesTo, hy]
 by_cases h : j < 4 * k
 ·rw [upd_other _ _ (by omega), upd_other _ _ (by omega), upd_other _ _ (by omega), upd_other _ _ (by omega), hf j h, List.getD_eq_getElem?_getD, List.getD_eq_getElem?_getD, List.getElem?_append_left (by omega)]
 ·obtain ⟨i, hi⟩ : ∃ i, j = 4 * k + i := ⟨j - 4 * k, by omega⟩
  subst hi
  rw [List.getD_eq_getElem?_getD, List.getElem?_append_right (by omega), show 4 * k + i - (bytesTo x k).length = i by omega, <- List.getD_eq_getElem?_getD, four8_at y i (by omega)]
  have hc : i = 0 ∨ i = 1 ∨ i = 2 ∨ i = 3 := by omega
  rcases hc with rfl | rfl | rfl | rfl
  ·rw [upd_other _ _ (by omega), upd_other _ _ (by omega), upd_other _ _ (by omega), Nat.add_zero, upd_same]
  ·rw [upd_other _ _ (by omega), upd_other _ _ (by omega), upd_same]
  ·rw [upd_other _ _ (by omega), upd_same]
  ·rw [upd_same]; simp
theorem specDigest_any (s : ByteArray) (w : World) (hs : s.size <= 1000000000) : Calls Tryz.prog 124 #[.string s] w fun e w' => e = .returned (.string (digB s)) /\ Below w.heap.size w w' := by
 go_enter Tryz.func124, Tryz.ntmps124
 go_wp2_with (first | (go_at_call 125; refine (firstS_any _).mono ?_; rintro e w1 ⟨rfl, hb1⟩) | (refine step_storeRow 144 w1.heap.size 8 (stf firstN) (Row.new w1 144 8 fun _ => 0) rfl rfl rfl rfl rfl info8s ?_; intro W2 HW2) | (go_at_call 126; refine (keys_any _).mono ?_; rintro e w3 ⟨rfl, hb3⟩) | (refine step_storeRow 146 w3.heap.size 64 keyf (Row.new w3 146 64 fun _ => 0) rfl rfl rfl rfl rfl info64 ?_; intro W4 HW4) | (go_at_call 127; refine (specPad_any s _ hs).mono ?_; rintro e w5 ⟨rfl, hb5⟩))
 have HF : Hid (Row w5 w1.heap.size 144 8 (stf firstN) /\ Row w5 w3.heap.size 146 64 keyf /\ Below w.heap.size w w5 /\ w.heap.size <= w1.heap.size /\ w1.heap.size < w3.heap.size /\ w3.heap.size < w5.heap.size) := by
  have h2 := HW2.out
  have h4 := HW4.out
  have r2 : Row W2 w1.heap.size 144 8 (stf firstN) := by rw [h2]; exact Row.setRow (Row.new w1 144 8 fun _ => 0)
  have z2 : W2.heap.size = w1.heap.size + 1 := by rw [h2, size_setRow, sizeA]
  have z4 : W4.heap.size = w3.heap.size + 1 := by rw [h4, size_setRow, sizeA]
  have s1 := hb1.size
  have s3 := hb3.size
  have s5 := hb5.size
  have b2 : Below w.heap.size w W2 := by rw [h2]; exact below_setRow (hb1.alloc hb1.size _) hb1.size _
  have b3 : Below w.heap.size w w3 := b2.trans (hb3.mono (by omega))
  have b4 : Below w.heap.size w W4 := by rw [h4]; exact below_setRow (b3.alloc (by omega) _) (by omega) _
  have r3 : Row w3 w1.heap.size 144 8 (stf firstN) := r2.below hb3 (by omega)
  have r4 : Row W4 w1.heap.size 144 8 (stf firstN) := by rw [h4]; exact (r3.alloc _).setRow_other _ _ (by omega)
  have k4 : Row W4 w3.heap.size 146 64 keyf := by rw [h4]; exact Row.setRow (Row.new w3 146 64 fun _ => 0)
  exact ⟨r4.below hb5 (by omega), k4.below hb5 (by omega), b4.trans (hb5.mono (by omega)), s1, by omega, by omega⟩
 clear HW2 HW4 hb1 hb3 hb5
 obtain ⟨c, hc⟩ := zE (w1.heap.size)
 obtain ⟨d, hd⟩ := zE (w3.heap.size)
 rw [hc, hd] at HF
 rw [hc, hd]
 clear hc hd
 obtain ⟨P0, hP⟩ := zE (padB s)
 obtain ⟨N, hN⟩ : ∃ N, (padB s).size = 64 * N := ⟨(padB s).size / 64, by rw [padB_size]; omega⟩
 have hNl : N <= 100000000 := by have := padB_size s; omega
 rw [hP] at hN
 rw [hP]
 have HP : Hid (padB s = P0 /\ P0.size = 64 * N) := ⟨hP, hN⟩
 have hPl : P0.size <= 6400000000 := by omega
 clear hP hN
 go_loopw [6] (fun iv wr => ∃ k : Nat, k <= N /\ iv = .int .i64 (64 * (k : Int)) /\ Hid (Row wr c 144 8 (stf (blocksN firstN P0.data.toList k)) /\ Row wr d 146 64 keyf /\ Below w.heap.size w wr)) (fun iv _ => P0.size - (intOf iv).toNat)
 case atStart => exact ⟨0, by omega, rfl, ⟨HF.out.1, HF.out.2.1, HF.out.2.2.1⟩⟩
 case round =>
  have HC : Hid (w.heap.size <= c /\ c < d) := ⟨HF.out.2.2.2.1, HF.out.2.2.2.2.1⟩
  clear HF
  obtain ⟨k, hk, rfl, H⟩ := hrel
  have hN2 := HP.out.2
  by_cases hlt : k < N
  ·obtain ⟨x, hx⟩ := zE (blocksN firstN P0.data.toList k)
   have hok : x.ok := by rw [<- hx]; exact blocksN_ok _ _ firstN_ok
   obtain ⟨p, hp⟩ := zE (64 * k)
   obtain ⟨q, hq⟩ := zE (64 * k + 64)
   have hpi : (64 : Int) * (k : Int) = (p : Int) := by omega
   have hqi : IntKind.i64.wrap ((p : Int) + 64) = (q : Int) := by rw [IntWalk.i64_in _ (by omega)]; omega
   have b1 : (p : Int) <= (q : Int) := by omega
   have b2 : (q : Int) <= (P0.size : Int) := by omega
   have b3 : (0 : Int) <= (p : Int) := by omega
   have b4 : (0 : Int) <= (q : Int) := by omega
   have b5 : (p : Int) < (P0.size : Int) := by omega
   have hsz : (P0.extract p q).size = 64 := by rw [ByteArray.size_extract]; omega
   have HE : Hid (blockN x (P0.extract p q).data.toList = blocksN firstN P0.data.toList (k + 1)) := by
    show _ = _
    rw [blocksN, hx, extract_toList, <- hp, <- hq, show 64 * k + 64 - 64 * k = 64 by omega]
   have HB := block_any x (P0.extract p q) wr.drew hok hsz
   have HR : Hid (Row wr.drew c 144 8 (stf x) /\ Row wr.drew d 146 64 keyf /\ Below w.heap.size w wr.drew /\ c < wr.heap.size /\ d < wr.heap.size) := ⟨hx ▸ H.out.1, H.out.2.1, H.out.2.2.drew, (Array.getElem?_eq_some_iff.1 H.out.1).1, (Array.getElem?_eq_some_iff.1 H.out.2.1).1⟩
   have HQ : Hid (64 * k = p /\ p + 64 = q) := ⟨hp, by omega⟩
   rw [hpi]
   clear H hx hp hq hpi hN2
   obtain ⟨y, hy⟩ := zE (blockN x (P0.extract p q).data.toList)
   rw [hy] at HB HE
   clear hy hsz
   go_wp2_with fail
   refine wp_region_still_tail 7 (by kernel_rfl) (by kernel_rfl) ?_
   simp only [List.take_succ_cons, List.take_zero, List.drop_succ_cons, List.drop_zero]
   refine still_loadRow 144 143 c 8 HR.out.1 rfl rfl rfl Tryz.underlying144 info8z ?_
   iterate 5 still_step
   refine still_loadRow 146 143 d 64 HR.out.2.1 rfl rfl rfl Tryz.underlying146 info64 ?_
   refine wpStill_nil ?_
   change wpList _ _ _ _ _ wr.drew
   go_wp2_with (first | (go_at_call 128; refine HB.mono ?_; rintro e w2 ⟨rfl, hb2⟩) | (refine step_storeRow 144 c 8 (stf y) (Row.below HR.out.1 hb2 HR.out.2.2.2.1) rfl rfl rfl rfl rfl info8z ?_; intro W3 HW3))
   have H2 : Hid (Row W3 c 144 8 (stf (blocksN firstN P0.data.toList (k + 1))) /\ Row W3 d 146 64 keyf /\ Below w.heap.size w W3) := by
    have hW3 := HW3.out
    have hc := HC.out
    have hr := HR.out
    subst hW3
    rw [<- HE.out]
    exact ⟨Row.setRow (Row.below hr.1 hb2 hr.2.2.2.1), (hr.2.1.below hb2 hr.2.2.2.2).setRow_other _ _ (by omega), below_setRow (hr.2.2.1.trans (hb2.mono hr.2.2.1.size)) hc.1 _⟩
   clear HB HW3 hb2 HR HE
   go_roundw
   case rel => exact ⟨k + 1, by omega, by have := HQ.out; congr 1; omega, H2⟩
   case measure => have := HQ.out; simp [intOf]; omega
  ·have hkN : k = N := by omega
   subst hkN
   have HD : Hid (bytesOfSt (blocksN firstN P0.data.toList k) = digL s.data.toList) := by
    show _ = bytesOfSt (blocksN firstN (padL s.data.toList) ((padL s.data.toList).length / 64))
    have e1 : P0.data.toList = padL s.data.toList := by rw [<- HP.out.1]; rfl
    have e2 : (padL s.data.toList).length = 64 * k := by rw [<- e1]; exact hN2
    rw [e1, e2, Nat.mul_div_cancel_left k (by decide)]
   have hok : (blocksN firstN P0.data.toList k).ok := blocksN_ok _ _ firstN_ok
   obtain ⟨x, hx⟩ := zE (blocksN firstN P0.data.toList k)
   rw [hx] at H HD hok
   have hnlt : ¬ (64 * (k : Int) < (P0.size : Int)) := by omega
   have hmk : ∀ w, (Instr.makeSlice 22 (.int .i64 32) (.int .i64 32)).run Tryz.prog w = .ok (.slice (some ⟨w.heap.size, 0, none⟩) 32 32) (w.alloc (.cells #[.int .u8 0, .int .u8 0, .int .u8 0, .int .u8 0, .int .u8 0, .int .u8 0, .int .u8 0, .int .u8 0, .int .u8 0, .int .u8 0, .int .u8 0, .int .u8 0, .int .u8 0, .int .u8 0, .int .u8 0, .int .u8 0, .int .u8 0, .int .u8 0, .int .u8 0, .int .u8 0, .int .u8 0, .int .u8 0, .int .u8 0, .int .u8 0, .int .u8 0, .int .u8 0, .int .u8 0, .int .u8 0, .int .u8 0, .int .u8 0, .int .u8 0, .int .u8 0] 5)) := fun _ => by kernel_rfl
   clear hx hN2
   go_wp2_with fail
   clear hmk hnlt
   have HG : Hid (RowB (wr.alloc (.cells (arrB 32 fun _ => 0) 5)) wr.heap.size 32 (fun _ => 0) /\ Row (wr.alloc (.cells (arrB 32 fun _ => 0) 5)) c 144 8 (stf x) /\ Below w.heap.size w (wr.alloc (.cells (arrB 32 fun _ => 0) 5)) /\ c < wr.heap.size /\ w.heap.size <= wr.heap.size) :=
    ⟨heap_alloc_last _ _, H.out.1.alloc _, H.out.2.2.alloc H.out.2.2.size _, (Array.getElem?_eq_some_iff.1 H.out.1).1, H.out.2.2.size⟩
   obtain ⟨g, hg⟩ := zE (wr.heap.size)
   rw [hg] at HG
   rw [hg]
   clear hg H
   go_loopw [8] (fun iv wv => ∃ (j : Nat) (f : Nat -> Nat), j <= 8 /\ iv = .int .i64 j /\ Hid ((∀ i, i < 4 * j -> f i = ((bytesTo x j).getD i 0).toNat) /\ RowB wv g 32 f /\ Row wv c 144 8 (stf x) /\ Below w.heap.size w wv)) (fun iv _ => 8 - (intOf iv).toNat)
   case atStart => exact ⟨0, fun _ => 0, by omega, rfl, ⟨fun i hi => by omega, HG.out.1, HG.out.2.1, HG.out.2.2.1⟩⟩
   case round =>
    have hcg : c ≠ g := by have := HG.out.2.2.2.1; omega
    have hgc : g ≠ c := by have := HG.out.2.2.2.1; omega
    have HW : Hid (w.heap.size <= g) := HG.out.2.2.2.2
    clear HG
    obtain ⟨j, f, hj, rfl, H⟩ := hrel
    by_cases hlt4 : j < 8
    ·have hj0 : (0 : Int) <= (j : Int) := by omega
     have hj1 : (j : Int) < 8 := by omega
     have hyl := stf_lt x hok j
     obtain ⟨y, hy⟩ := zE (stf x j)
     have cy := H.out.2.2.1.cell j hlt4
     rw [hy] at cy hyl
     obtain ⟨p0, e0⟩ := zE (4 * j)
     obtain ⟨p1, e1⟩ := zE (p0 + 1)
     obtain ⟨p2, e2⟩ := zE (p0 + 2)
     obtain ⟨p3, e3⟩ := zE (p0 + 3)
     have w0 : (4 : Int) * (j : Int) = (p0 : Int) := by omega
     have w1 : (p0 : Int) + 1 = (p1 : Int) := by omega
     have w2 : (p0 : Int) + 2 = (p2 : Int) := by omega
     have w3 : (p0 : Int) + 3 = (p3 : Int) := by omega
     have l0 : p0 < 32 := by omega
     have l1 : p1 < 32 := by omega
     have l2 : p2 < 32 := by omega
     have l3 : p3 < 32 := by omega
     have c0 := H.out.2.1.cell p0 l0
     have c1 := H.out.2.1.cell p1 l1
     have c2 := H.out.2.1.cell p2 l2
     have c3 := H.out.2.1.cell p3 l3
     have f0 := H.out.2.1.free p0
     have f1 := H.out.2.1.free p1
     have f2 := H.out.2.1.free p2
     have f3 := H.out.2.1.free p3
     have n1 : p1 ≠ p0 := by omega
     have n2 : p2 ≠ p0 := by omega
     have n3 : p3 ≠ p0 := by omega
     have n4 : p2 ≠ p1 := by omega
     have n5 : p3 ≠ p1 := by omega
     have n6 : p3 ≠ p2 := by omega
     obtain ⟨b0, d0⟩ := zE (y / 16777216 % 256)
     obtain ⟨b1, d1⟩ := zE (y / 65536 % 256)
     obtain ⟨b2, d2⟩ := zE (y / 256 % 256)
     obtain ⟨b3, d3⟩ := zE (y % 256)
     have i0 : (y : Int) / 16777216 = (b0 : Int) := by omega
     have i1 : (y : Int) / 65536 % 256 = (b1 : Int) := by omega
     have i2 : (y : Int) / 256 % 256 = (b2 : Int) := by omega
     have i3 : (y : Int) % 256 = (b3 : Int) := by omega
     have HZ : Hid (∀ i, i < 4 * (j + 1) -> upd (upd (upd (upd f p0 b0) p1 b1) p2 b2) p3 b3 i = ((bytesTo x (j + 1)).getD i 0).toNat) := by
      intro i hi
      have := bytesTo_at x j f y hy H.out.1 i hi
      rw [e0, e1, e2, e3, d0, d1, d2, d3] at this
      exact this
     clear e0 e1 e2 e3 d0 d1 d2 d3 hy
     go_wp2_with fail
     go_roundw
     case rel =>
      have hw := HW.out
      have h := H.out
      exact ⟨j + 1, upd (upd (upd (upd f p0 b0) p1 b1) p2 b2) p3 b3, by omega, by go_num, ⟨HZ.out, (((h.2.1.set p0 b0).set p1 b1).set p2 b2).set p3 b3, (((h.2.2.1.other _ _ hcg).other _ _ hcg).other _ _ hcg).other _ _ hcg, (((h.2.2.2.setCell (p := ⟨g, p0, none⟩) hw _).setCell (p := ⟨g, p1, none⟩) hw _).setCell (p := ⟨g, p2, none⟩) hw _).setCell (p := ⟨g, p3, none⟩) hw _⟩⟩
     case measure => simp [intOf]; omega
    ·have hj8 : j = 8 := by omega
     subst hj8
     have hl8 := bytesTo_len x 8
     have hcv := run_convert_bytes_back (P := Tryz.prog) wr 22 9 5 ⟨g, 0, none⟩ 32 (bytesTo x 8) Tryz.underlying22 Tryz.underlying5 Tryz.underlying9 (fun i hi => by
      rw [show (⟨g, 0, none⟩ : Addr).add i = ⟨g, i, none⟩ by unfold Addr.add; split <;> simp_all, H.out.2.1.cell i (by omega), H.out.1 i (by omega), List.getD_eq_getElem?_getD, List.getElem?_eq_getElem hi]
      rfl)
     rw [hl8] at hcv
     clear hl8
     go_wp2_with fail
     go_ret
     exact ⟨by rw [bytesTo_all, HD.out]; rfl, H.out.2.2.2⟩
def aheadB : ByteArray := ⟨#[0, 1, 255, 255, 255, 255, 255, 255, 0]⟩
def pddB (s : ByteArray) : ByteArray := aheadB ++ (digB s).extract 0 6
theorem pddB_size (s : ByteArray) : (pddB s).size = 15 := by
 unfold pddB
 rw [ByteArray.size_append, ByteArray.size_extract, digB_size]
 rfl
theorem specPadded_any (s : ByteArray) (w : World) (hs : s.size <= 1000000000) : Calls Tryz.prog 112 #[.string s] w fun e w' => e = .returned (.string (pddB s)) /\ Below w.heap.size w w' := by
 have E := specDigest_any s w hs
 have HN : Hid (pddB s = aheadB ++ (digB s).extract 0 6 /\ ((digB s).extract 0 6).size = 6) := ⟨rfl, by rw [ByteArray.size_extract, digB_size]; rfl⟩
 have hz := digB_size s
 have hD : ((digB s).extract 0 6).size = 6 := HN.out.2
 generalize digB s = D at *
 go_enter Tryz.func112, Tryz.ntmps112
 go_wp2_with fail
 refine E.mono ?_
 rintro e w1 ⟨rfl, hb1⟩
 have H1 : Hid (Below w.heap.size w w1) := hb1
 clear hb1 E
 go_wp2_with fail
 go_ret
 exact ⟨by rw [HN.out.1]; rfl, H1.out⟩
end Go.Proofs.YthbdgdfanpbkeaaGreat
namespace Go.Proofs.YthbdgdfanpbkeaaGreat
def bitN (n : Nat) : List Int := if _h : n = 0 then [] else ((n % 2 : Nat) : Int) :: bitN (n / 2)
def bitsI (x : Int) : List Int := bitN x.toNat
def valB : List Int -> Int
 | [] => 0
 | b :: bs => b + 2 * valB bs
theorem bitN_zero : bitN 0 = [] := by rw [bitN, dif_pos rfl]
theorem bitN_pos {n : Nat} (h : n ≠ 0) : bitN n = ((n % 2 : Nat) : Int) :: bitN (n / 2) := by rw [bitN, dif_neg h]
theorem bitsI_zero : bitsI 0 = [] := by unfold bitsI; exact bitN_zero
theorem bitsI_step {x : Int} (h : 0 < x) : bitsI x = x % 2 :: bitsI (x / 2) := by
 unfold bitsI
 rw [bitN_pos (by omega)]
 congr 1
 ·omega
 ·congr 1
  omega
theorem bitN_facts (n : Nat) : (∀ b ∈ bitN n, b = 0 ∨ b = 1) /\ valB (bitN n) = (n : Int) /\ (bitN n ≠ [] -> (bitN n).getD ((bitN n).length - 1) 0 = 1) := by
 induction n using Nat.strongRecOn with
 | _ n ih =>
  by_cases h : n = 0
  ·subst h
   rw [bitN_zero]
   exact ⟨fun b hb => by simp at hb, rfl, fun h => absurd rfl h⟩
  ·have ⟨i1, i2, i3⟩ := ih (n / 2) (by omega)
   rw [bitN_pos h]
   refine ⟨?_, ?_, fun _ => ?_⟩
   ·intro x hx
    rcases List.mem_cons.1 hx with rfl | hx
    ·omega
    ·exact i1 x hx
   ·simp only [valB, i2]
    omega
   ·by_cases hq : n / 2 = 0
    ·rw [hq, bitN_zero]
     simp
     omega
    ·have hl : bitN (n / 2) ≠ [] := by rw [bitN_pos hq]; simp
     have := i3 hl
     obtain ⟨k, hk⟩ : ∃ k, (bitN (n / 2)).length = k + 1 := ⟨(bitN (n / 2)).length - 1, by have := List.length_pos_iff.2 hl; omega⟩
     rw [hk] at this
     simp only [List.length_cons, Nat.add_sub_cancel, hk]
     simpa using this
theorem bitsI_01 {x b : Int} (h : b ∈ bitsI x) : b = 0 ∨ b = 1 := (bitN_facts _).1 b h
theorem valB_bits {x : Int} (h : 0 <= x) : valB (bitsI x) = x := by
 unfold bitsI
 rw [(bitN_facts _).2.1]
 omega
theorem valB_append (p : List Int) (b : Int) : valB (p ++ [b]) = valB p + 2 ^ p.length * b := by
 induction p with
 | nil => simp [valB]
 | cons x xs ih => simp only [List.cons_append, valB, ih, List.length_cons]; grind
theorem valB_nonneg {p : List Int} (h : ∀ b ∈ p, b = 0 ∨ b = 1) : 0 <= valB p := by
 induction p with
 | nil => simp [valB]
 | cons x xs ih =>
  have := ih fun b hb => h b (by simp [hb])
  have := h x (by simp)
  simp only [valB]
  omega
theorem bitN_len : ∀ (k n : Nat), n < 2 ^ k -> (bitN n).length <= k := by
 intro k
 induction k with
 | zero =>
  intro n h
  have : n = 0 := by simpa using h
  rw [this, bitN_zero]
  simp
 | succ k ih =>
  intro n h
  by_cases h0 : n = 0
  ·rw [h0, bitN_zero]; simp
  ·rw [bitN_pos h0]
   have := ih (n / 2) (by rw [Nat.pow_succ] at h; omega)
   simp only [List.length_cons]
   omega
theorem p40_lt : (10000 : Nat) ^ 40 < 2 ^ 560 := by decide +kernel
theorem bitsI_len {x : Int} (h : x < 10000 ^ 40) : (bitsI x).length <= 560 := by
 refine bitN_len 560 _ ?_
 have h2 : x.toNat < 10000 ^ 40 ∨ x.toNat = 0 := by omega
 have := p40_lt
 rcases h2 with h2 | h2 <;> omega
structure Pw (a m : Int) (pre : List Int) (P S : Int) : Prop where
 power : P = a ^ (valB pre).toNat % m
 square : S % m = a ^ (2 ^ pre.length) % m
 nn : 0 <= S
 bits : ∀ b ∈ pre, b = 0 ∨ b = 1
theorem Pw.start {a m S : Int} (hS : 0 <= S) (h : S % m = a % m) : Pw a m [] (1 % m) S := ⟨by simp [valB], by simpa [Int.pow_one] using h, hS, fun b hb => by simp at hb⟩
theorem Pw.square_mod {a m : Int} {pre : List Int} {P S : Int} (h : Pw a m pre P S) : S * S % m % m = a ^ (2 ^ (pre.length + 1)) % m := by
 rw [Int.emod_emod_of_dvd _ (Int.dvd_refl m), Int.mul_emod, h.square, <- Int.mul_emod, <- Int.pow_add, show 2 ^ pre.length + 2 ^ pre.length = 2 ^ (pre.length + 1) by omega]
theorem snoc_bits {pre : List Int} {b : Int} (h : ∀ b ∈ pre, b = 0 ∨ b = 1) (hb : b = 0 ∨ b = 1) : ∀ c ∈ pre ++ [b], c = 0 ∨ c = 1 := by
 intro c hc
 rcases List.mem_append.1 hc with hc | hc
 ·exact h c hc
 ·simp at hc; exact hc ▸ hb
theorem Pw.one {a m : Int} {pre : List Int} {P S : Int} (h : Pw a m pre P S) (hm : 0 < m) : Pw a m (pre ++ [1]) (P * S % m) (S * S % m) := by
 refine ⟨?_, by rw [h.square_mod]; simp, Int.emod_nonneg _ (by omega), snoc_bits h.bits (.inr rfl)⟩
 have h1 := valB_nonneg h.bits
 have e : (valB (pre ++ [1])).toNat = (valB pre).toNat + 2 ^ pre.length := by
  rw [valB_append, Int.mul_one]
  have e2 : (2 : Int) ^ pre.length = ((2 ^ pre.length : Nat) : Int) := by simp
  rw [e2]
  generalize 2 ^ pre.length = q
  omega
 rw [e, Int.pow_add, Int.mul_emod, h.square, h.power, Int.emod_emod_of_dvd _ (Int.dvd_refl m), <- Int.mul_emod]
theorem Pw.zero {a m : Int} {pre : List Int} {P S : Int} (h : Pw a m pre P S) (hm : 0 < m) : Pw a m (pre ++ [0]) P (S * S % m) := by
 refine ⟨?_, by rw [h.square_mod]; simp, Int.emod_nonneg _ (by omega), snoc_bits h.bits (.inl rfl)⟩
 rw [valB_append, Int.mul_zero, Int.add_zero]
 exact h.power
theorem Pw.done {a m x : Int} {P S : Int} (h : Pw a m (bitsI x) P S) (hx : 0 <= x) : P = a ^ x.toNat % m := by rw [h.power, valB_bits hx]
end Go.Proofs.YthbdgdfanpbkeaaGreat
