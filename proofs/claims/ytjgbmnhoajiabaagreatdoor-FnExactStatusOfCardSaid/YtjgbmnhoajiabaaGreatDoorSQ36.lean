/-
  Texts of the proof.
-/
import Derived.StillTailTactics
import Derived.Lib.LaidU8
import Derived.Test.YtjgbmnhoajiabaaGreatDoorSQ35
set_option maxRecDepth 100000
namespace Go.Proofs.YtjgbmnhoajiabaaGreatDoor
open Go.RowKit
set_option maxHeartbeats 800000 in
theorem firstS_any (w : World) : Calls Tryz.prog 295 #[] w fun e w' => e = .returned (.agg (arrN 8 (stf firstN))) /\ Below w.heap.size w w' := by
 go_enter Tryz.func295, Tryz.ntmps295
 go_wp2
 have hrow := Row.new w 286 8 (stf firstN)
 refine bodyPost_ret (v := .agg (arrN 8 (stf firstN))) ?_ rfl ⟨rfl, (Below.refl _ _).alloc (Nat.le_refl _) _⟩
 exact results_cell_row rfl _ _ w.heap.size _ (arrN 8 (stf firstN)) (0, 0) _ rfl hrow Tryz.underlying286 rfl (by rw [arrN_size]; exact info8s)
theorem still_loadRow {P : Program} {ops : Array Oper} {rest : List Oper} {op : Oper} {a : Act} {w : World} {Q : Act -> Prop} {x : Operand} (ty e : TypeId) (b n : Nat) {t : TypeId} {f : Nat -> Nat} (h : Row w b t n f) (hgd : op.guard = none) (ho : op.op = .load ty x) (hx : a.eval x = .pointer (some ⟨b, 0, none⟩))
  (hu : P.underlying ty = some (.array n e)) (hi : (P.info? ty).map (·.size) = some n) (hk : wpStill P ops w Q rest (a.put op.dst (.agg (arrN n f)))) : wpStill P ops w Q (op :: rest) a := by
 refine wpStill_step fun K hK => ?_
 have hl := h.load hu hi
 simp only [Region.wanted, hgd, if_true]
 unfold Oper.still execOp
 simp only [ho, hx, Instr.loadAt, Instr.sureAddr, Sem.run_bind, Sem.run_pure, Result.andThen_ok, hl]
 exact ⟨rfl, hK _ hk⟩
def arrB (n : Nat) (f : Nat -> Nat) : Array Value := ((List.range n).map fun j => Value.int .u8 ((f j : Nat) : Int)).toArray
theorem arrB_size (n : Nat) (f : Nat -> Nat) : (arrB n f).size = n := by simp [arrB]
theorem arrB_get (n : Nat) (f : Nat -> Nat) (j : Nat) (h : j < n) : (arrB n f)[j]? = some (.int .u8 ((f j : Nat) : Int)) := by simp [arrB, h]
theorem arrB_set (n : Nat) (f : Nat -> Nat) (k v : Nat) : (arrB n f).setIfInBounds k (.int .u8 ((v : Nat) : Int)) = arrB n (upd f k v) := by
 apply Array.ext_getElem?
 intro i
 rw [Array.getElem?_setIfInBounds]
 by_cases hi : i < n
 ·rw [arrB_get n (upd f k v) i hi]
  by_cases hk : k = i
  ·subst hk
   rw [if_pos rfl, if_pos (by rw [arrB_size]; exact hi), upd_same]
  ·rw [if_neg hk, arrB_get n f i hi, upd_other f v (fun e => hk e.symm)]
 ·have h1 : (arrB n (upd f k v))[i]? = none := by rw [Array.getElem?_eq_none_iff, arrB_size]; omega
  have h2 : (arrB n f)[i]? = none := by rw [Array.getElem?_eq_none_iff, arrB_size]; omega
  rw [h1, h2]
  split
  ·rw [if_neg (by rw [arrB_size]; omega)]
  ·rfl
def RowB (w : World) (b n : Nat) (f : Nat -> Nat) : Prop := w.heap[b]? = some (.cells (arrB n f) 5 (0, 0))
theorem RowB.cell {w : World} {b n : Nat} {f : Nat -> Nat} (h : RowB w b n f) (j : Nat) (hj : j < n) : w.cell? ⟨b, j, none⟩ = some (.int .u8 ((f j : Nat) : Int)) := by
 rw [cell_of_row w b j _ 5 _ h, arrB_get n f j hj]
theorem RowB.free {w : World} {b n : Nat} {f : Nat -> Nat} (h : RowB w b n f) (j : Nat) : w.frozen? ⟨b, j, none⟩ = false := by
 have h' : w.heap[b]? = some (.cells (arrB n f) 5 (0, 0)) := h
 simp [World.frozen?, h']
theorem RowB.set {w : World} {b n : Nat} {f : Nat -> Nat} (h : RowB w b n f) (k v : Nat) : RowB (w.setCell ⟨b, k, none⟩ (.int .u8 ((v : Nat) : Int))) b n (upd f k v) := by
 show _ = _
 rw [heap_setCell_same w b k _ 5 _ h, arrB_set]
theorem four8_at (y j : Nat) (hj : j < 4) : ((four8 y).getD j 0).toNat = y / 2 ^ (8 * (3 - j)) % 256 := by
 match j, hj with
 | 0, _ => show (UInt8.ofNat _).toNat = _; rw [UInt8.toNat_ofNat']; omega
 | 1, _ => show (UInt8.ofNat _).toNat = _; rw [UInt8.toNat_ofNat']; omega
 | 2, _ => show (UInt8.ofNat _).toNat = _; rw [UInt8.toNat_ofNat']; omega
 | 3, _ => show (UInt8.ofNat _).toNat = _; rw [UInt8.toNat_ofNat']; omega
theorem bytesTo_at (x : St) (k : Nat) (f : Nat -> Nat) (y : Nat) (hy : stf x k = y) (hf : ∀ j, j < 4 * k -> f j = ((bytesTo x k).getD j 0).toNat) (j : Nat) (hj : j < 4 * (k + 1)) :
  upd (upd (upd (upd f (4 * k) (y / 16777216 % 256)) (4 * k + 1) (y / 65536 % 256)) (4 * k + 2) (y / 256 % 256)) (4 * k + 3) (y % 256) j = ((bytesTo x (k + 1)).getD j 0).toNat := by
 have hl := bytesTo_len x k
 rw [bytesTo, hy]
 by_cases h : j < 4 * k
 ·rw [upd_other _ _ (by omega), upd_other _ _ (by omega), upd_other _ _ (by omega), upd_other _ _ (by omega), hf j h, List.getD_eq_getElem?_getD, List.getD_eq_getElem?_getD, List.getElem?_append_left (by omega)]
 ·obtain ⟨i, hi⟩ : ∃ i, j = 4 * k + i := ⟨j - 4 * k, by omega⟩
  subst hi
  rw [List.getD_eq_getElem?_getD, List.getElem?_append_right (by omega), show 4 * k + i - (bytesTo x k).length = i by omega, <- List.getD_eq_getElem?_getD, four8_at y i (by omega)]
  have hc : i = 0 ∨ i = 1 ∨ i = 2 ∨ i = 3 := by omega
  rcases hc with rfl | rfl | rfl | rfl
  ·rw [upd_other _ _ (by omega), upd_other _ _ (by omega), upd_other _ _ (by omega), Nat.add_zero, upd_same]
  ·rw [upd_other _ _ (by omega), upd_other _ _ (by omega), upd_same]
  ·rw [upd_other _ _ (by omega), upd_same]
  ·rw [upd_same]; simp
set_option maxHeartbeats 800000 in
theorem specDigest_any (s : ByteArray) (w : World) (hs : s.size <= 1000000000) : Calls Tryz.prog 237 #[.string s] w fun e w' => e = .returned (.string (digB s)) /\ Below w.heap.size w w' := by
 go_enter Tryz.func237, Tryz.ntmps237
 go_wp2_with (first | (go_at_call 295; refine (firstS_any _).mono ?_; rintro e w1 ⟨rfl, hb1⟩) | (refine step_storeRow 286 w1.heap.size 8 (stf firstN) (Row.new w1 286 8 fun _ => 0) rfl rfl rfl rfl rfl info8s ?_; intro W2 HW2) | (go_at_call 296; refine (keys_any _).mono ?_; rintro e w3 ⟨rfl, hb3⟩) | (refine step_storeRow 288 w3.heap.size 64 keyf (Row.new w3 288 64 fun _ => 0) rfl rfl rfl rfl rfl info64 ?_; intro W4 HW4) | (go_at_call 297; refine (specPad_any s _ hs).mono ?_; rintro e w5 ⟨rfl, hb5⟩))
 have HF : Hid (Row w5 w1.heap.size 286 8 (stf firstN) /\ Row w5 w3.heap.size 288 64 keyf /\ Below w.heap.size w w5 /\ w.heap.size <= w1.heap.size /\ w1.heap.size < w3.heap.size /\ w3.heap.size < w5.heap.size) := by
  have h2 := HW2.out
  have h4 := HW4.out
  have r2 : Row W2 w1.heap.size 286 8 (stf firstN) := by rw [h2]; exact Row.setRow (Row.new w1 286 8 fun _ => 0)
  have z2 : W2.heap.size = w1.heap.size + 1 := by rw [h2, size_setRow, sizeA]
  have z4 : W4.heap.size = w3.heap.size + 1 := by rw [h4, size_setRow, sizeA]
  have s1 := hb1.size
  have s3 := hb3.size
  have s5 := hb5.size
  have b2 : Below w.heap.size w W2 := by rw [h2]; exact below_setRow (hb1.alloc hb1.size _) hb1.size _
  have b3 : Below w.heap.size w w3 := b2.trans (hb3.mono (by omega))
  have b4 : Below w.heap.size w W4 := by rw [h4]; exact below_setRow (b3.alloc (by omega) _) (by omega) _
  have r3 : Row w3 w1.heap.size 286 8 (stf firstN) := r2.below hb3 (by omega)
  have r4 : Row W4 w1.heap.size 286 8 (stf firstN) := by rw [h4]; exact (r3.alloc _).setRow_other _ _ (by omega)
  have k4 : Row W4 w3.heap.size 288 64 keyf := by rw [h4]; exact Row.setRow (Row.new w3 288 64 fun _ => 0)
  exact ⟨r4.below hb5 (by omega), k4.below hb5 (by omega), b4.trans (hb5.mono (by omega)), s1, by omega, by omega⟩
 clear HW2 HW4 hb1 hb3 hb5
 obtain ⟨c, hc⟩ : ∃ c, w1.heap.size = c := ⟨_, rfl⟩
 obtain ⟨d, hd⟩ : ∃ d, w3.heap.size = d := ⟨_, rfl⟩
 rw [hc, hd] at HF
 rw [hc, hd]
 clear hc hd
 obtain ⟨P0, hP⟩ : ∃ P0, padB s = P0 := ⟨_, rfl⟩
 obtain ⟨N, hN⟩ : ∃ N, (padB s).size = 64 * N := ⟨(padB s).size / 64, by rw [padB_size]; omega⟩
 have hNl : N <= 100000000 := by have := padB_size s; omega
 rw [hP] at hN
 rw [hP]
 have HP : Hid (padB s = P0 /\ P0.size = 64 * N) := ⟨hP, hN⟩
 have hPl : P0.size <= 6400000000 := by omega
 clear hP hN
 go_loopw [6] (fun iv wr => ∃ k : Nat, k <= N /\ iv = .int .i64 (64 * (k : Int)) /\ Hid (Row wr c 286 8 (stf (blocksN firstN P0.data.toList k)) /\ Row wr d 288 64 keyf /\ Below w.heap.size w wr)) (fun iv _ => P0.size - (intOf iv).toNat)
 case atStart => exact ⟨0, by omega, rfl, ⟨HF.out.1, HF.out.2.1, HF.out.2.2.1⟩⟩
 case round =>
  have HC : Hid (w.heap.size <= c /\ c < d) := ⟨HF.out.2.2.2.1, HF.out.2.2.2.2.1⟩
  clear HF
  obtain ⟨k, hk, rfl, H⟩ := hrel
  have hN2 := HP.out.2
  by_cases hlt : k < N
  ·obtain ⟨x, hx⟩ : ∃ x, blocksN firstN P0.data.toList k = x := ⟨_, rfl⟩
   have hok : x.ok := by rw [<- hx]; exact blocksN_ok _ _ firstN_ok
   obtain ⟨p, hp⟩ : ∃ p, 64 * k = p := ⟨_, rfl⟩
   obtain ⟨q, hq⟩ : ∃ q, 64 * k + 64 = q := ⟨_, rfl⟩
   have hpi : (64 : Int) * (k : Int) = (p : Int) := by omega
   have hqi : IntKind.i64.wrap ((p : Int) + 64) = (q : Int) := by rw [IntWalk.i64_in _ (by omega)]; omega
   have b1 : (p : Int) <= (q : Int) := by omega
   have b2 : (q : Int) <= (P0.size : Int) := by omega
   have b3 : (0 : Int) <= (p : Int) := by omega
   have b4 : (0 : Int) <= (q : Int) := by omega
   have b5 : (p : Int) < (P0.size : Int) := by omega
   have hsz : (P0.extract p q).size = 64 := by rw [ByteArray.size_extract]; omega
   have HE : Hid (blockN x (P0.extract p q).data.toList = blocksN firstN P0.data.toList (k + 1)) := by
    show _ = _
    rw [blocksN, hx, extract_toList, <- hp, <- hq, show 64 * k + 64 - 64 * k = 64 by omega]
   have HB := block_any x (P0.extract p q) wr.drew hok hsz
   have HR : Hid (Row wr.drew c 286 8 (stf x) /\ Row wr.drew d 288 64 keyf /\ Below w.heap.size w wr.drew /\ c < wr.heap.size /\ d < wr.heap.size) := ⟨hx ▸ H.out.1, H.out.2.1, H.out.2.2.drew, (Array.getElem?_eq_some_iff.1 H.out.1).1, (Array.getElem?_eq_some_iff.1 H.out.2.1).1⟩
   have HQ : Hid (64 * k = p /\ p + 64 = q) := ⟨hp, by omega⟩
   rw [hpi]
   clear H hx hp hq hpi hN2
   obtain ⟨y, hy⟩ : ∃ y, blockN x (P0.extract p q).data.toList = y := ⟨_, rfl⟩
   rw [hy] at HB HE
   clear hy hsz
   go_wp2_with fail
   refine wp_region_still_tail 7 (by kernel_rfl) (by kernel_rfl) ?_
   simp only [List.take_succ_cons, List.take_zero, List.drop_succ_cons, List.drop_zero]
   refine still_loadRow 286 285 c 8 HR.out.1 rfl rfl rfl Tryz.underlying286 info8z ?_
   iterate 5 still_step
   refine still_loadRow 288 285 d 64 HR.out.2.1 rfl rfl rfl Tryz.underlying288 info64 ?_
   refine wpStill_nil ?_
   change wpList _ _ _ _ _ wr.drew
   go_wp2_with (first | (go_at_call 298; refine HB.mono ?_; rintro e w2 ⟨rfl, hb2⟩) | (refine step_storeRow 286 c 8 (stf y) (Row.below HR.out.1 hb2 HR.out.2.2.2.1) rfl rfl rfl rfl rfl info8z ?_; intro W3 HW3))
   have H2 : Hid (Row W3 c 286 8 (stf (blocksN firstN P0.data.toList (k + 1))) /\ Row W3 d 288 64 keyf /\ Below w.heap.size w W3) := by
    have hW3 := HW3.out
    have hc := HC.out
    have hr := HR.out
    subst hW3
    rw [<- HE.out]
    exact ⟨Row.setRow (Row.below hr.1 hb2 hr.2.2.2.1), (hr.2.1.below hb2 hr.2.2.2.2).setRow_other _ _ (by omega), below_setRow (hr.2.2.1.trans (hb2.mono hr.2.2.1.size)) hc.1 _⟩
   clear HB HW3 hb2 HR HE
   go_roundw
   case rel => exact ⟨k + 1, by omega, by have := HQ.out; congr 1; omega, H2⟩
   case measure => have := HQ.out; simp [intOf]; omega
  ·have hkN : k = N := by omega
   subst hkN
   have HD : Hid (bytesOfSt (blocksN firstN P0.data.toList k) = digL s.data.toList) := by
    show _ = bytesOfSt (blocksN firstN (padL s.data.toList) ((padL s.data.toList).length / 64))
    have e1 : P0.data.toList = padL s.data.toList := by rw [<- HP.out.1]; rfl
    have e2 : (padL s.data.toList).length = 64 * k := by rw [<- e1]; exact hN2
    rw [e1, e2, Nat.mul_div_cancel_left k (by decide)]
   have hok : (blocksN firstN P0.data.toList k).ok := blocksN_ok _ _ firstN_ok
   obtain ⟨x, hx⟩ : ∃ y, blocksN firstN P0.data.toList k = y := ⟨_, rfl⟩
   rw [hx] at H HD hok
   have hnlt : ¬ (64 * (k : Int) < (P0.size : Int)) := by omega
   have hmk : ∀ w, (Instr.makeSlice 22 (.int .i64 32) (.int .i64 32)).run Tryz.prog w = .ok (.slice (some ⟨w.heap.size, 0, none⟩) 32 32) (w.alloc (.cells #[.int .u8 0, .int .u8 0, .int .u8 0, .int .u8 0, .int .u8 0, .int .u8 0, .int .u8 0, .int .u8 0, .int .u8 0, .int .u8 0, .int .u8 0, .int .u8 0, .int .u8 0, .int .u8 0, .int .u8 0, .int .u8 0, .int .u8 0, .int .u8 0, .int .u8 0, .int .u8 0, .int .u8 0, .int .u8 0, .int .u8 0, .int .u8 0, .int .u8 0, .int .u8 0, .int .u8 0, .int .u8 0, .int .u8 0, .int .u8 0, .int .u8 0, .int .u8 0] 5)) := fun _ => by kernel_rfl
   clear hx hN2
   go_wp2_with fail
   clear hmk hnlt
   have HG : Hid (RowB (wr.alloc (.cells (arrB 32 fun _ => 0) 5)) wr.heap.size 32 (fun _ => 0) /\ Row (wr.alloc (.cells (arrB 32 fun _ => 0) 5)) c 286 8 (stf x) /\ Below w.heap.size w (wr.alloc (.cells (arrB 32 fun _ => 0) 5)) /\ c < wr.heap.size /\ w.heap.size <= wr.heap.size) :=
    ⟨heap_alloc_last _ _, H.out.1.alloc _, H.out.2.2.alloc H.out.2.2.size _, (Array.getElem?_eq_some_iff.1 H.out.1).1, H.out.2.2.size⟩
   obtain ⟨g, hg⟩ : ∃ g, wr.heap.size = g := ⟨_, rfl⟩
   rw [hg] at HG
   rw [hg]
   clear hg H
   go_loopw [8] (fun iv wv => ∃ (j : Nat) (f : Nat -> Nat), j <= 8 /\ iv = .int .i64 j /\ Hid ((∀ i, i < 4 * j -> f i = ((bytesTo x j).getD i 0).toNat) /\ RowB wv g 32 f /\ Row wv c 286 8 (stf x) /\ Below w.heap.size w wv)) (fun iv _ => 8 - (intOf iv).toNat)
   case atStart => exact ⟨0, fun _ => 0, by omega, rfl, ⟨fun i hi => by omega, HG.out.1, HG.out.2.1, HG.out.2.2.1⟩⟩
   case round =>
    have hcg : c ≠ g := by have := HG.out.2.2.2.1; omega
    have hgc : g ≠ c := by have := HG.out.2.2.2.1; omega
    have HW : Hid (w.heap.size <= g) := HG.out.2.2.2.2
    clear HG
    obtain ⟨j, f, hj, rfl, H⟩ := hrel
    by_cases hlt4 : j < 8
    ·have hj0 : (0 : Int) <= (j : Int) := by omega
     have hj1 : (j : Int) < 8 := by omega
     have hyl := stf_lt x hok j
     obtain ⟨y, hy⟩ : ∃ y, stf x j = y := ⟨_, rfl⟩
     have cy := H.out.2.2.1.cell j hlt4
     rw [hy] at cy hyl
     obtain ⟨p0, e0⟩ : ∃ p, 4 * j = p := ⟨_, rfl⟩
     obtain ⟨p1, e1⟩ : ∃ p, p0 + 1 = p := ⟨_, rfl⟩
     obtain ⟨p2, e2⟩ : ∃ p, p0 + 2 = p := ⟨_, rfl⟩
     obtain ⟨p3, e3⟩ : ∃ p, p0 + 3 = p := ⟨_, rfl⟩
     have w0 : (4 : Int) * (j : Int) = (p0 : Int) := by omega
     have w1 : (p0 : Int) + 1 = (p1 : Int) := by omega
     have w2 : (p0 : Int) + 2 = (p2 : Int) := by omega
     have w3 : (p0 : Int) + 3 = (p3 : Int) := by omega
     have l0 : p0 < 32 := by omega
     have l1 : p1 < 32 := by omega
     have l2 : p2 < 32 := by omega
     have l3 : p3 < 32 := by omega
     have c0 := H.out.2.1.cell p0 l0
     have c1 := H.out.2.1.cell p1 l1
     have c2 := H.out.2.1.cell p2 l2
     have c3 := H.out.2.1.cell p3 l3
     have f0 := H.out.2.1.free p0
     have f1 := H.out.2.1.free p1
     have f2 := H.out.2.1.free p2
     have f3 := H.out.2.1.free p3
     have n1 : p1 ≠ p0 := by omega
     have n2 : p2 ≠ p0 := by omega
     have n3 : p3 ≠ p0 := by omega
     have n4 : p2 ≠ p1 := by omega
     have n5 : p3 ≠ p1 := by omega
     have n6 : p3 ≠ p2 := by omega
     obtain ⟨b0, d0⟩ : ∃ r, y / 16777216 % 256 = r := ⟨_, rfl⟩
     obtain ⟨b1, d1⟩ : ∃ r, y / 65536 % 256 = r := ⟨_, rfl⟩
     obtain ⟨b2, d2⟩ : ∃ r, y / 256 % 256 = r := ⟨_, rfl⟩
     obtain ⟨b3, d3⟩ : ∃ r, y % 256 = r := ⟨_, rfl⟩
     have i0 : (y : Int) / 16777216 = (b0 : Int) := by omega
     have i1 : (y : Int) / 65536 % 256 = (b1 : Int) := by omega
     have i2 : (y : Int) / 256 % 256 = (b2 : Int) := by omega
     have i3 : (y : Int) % 256 = (b3 : Int) := by omega
     have HZ : Hid (∀ i, i < 4 * (j + 1) -> upd (upd (upd (upd f p0 b0) p1 b1) p2 b2) p3 b3 i = ((bytesTo x (j + 1)).getD i 0).toNat) := by
      intro i hi
      have := bytesTo_at x j f y hy H.out.1 i hi
      rw [e0, e1, e2, e3, d0, d1, d2, d3] at this
      exact this
     clear e0 e1 e2 e3 d0 d1 d2 d3 hy
     go_wp2_with fail
     go_roundw
     case rel =>
      have hw := HW.out
      have h := H.out
      exact ⟨j + 1, upd (upd (upd (upd f p0 b0) p1 b1) p2 b2) p3 b3, by omega, by go_num, ⟨HZ.out, (((h.2.1.set p0 b0).set p1 b1).set p2 b2).set p3 b3, (((h.2.2.1.other _ _ hcg).other _ _ hcg).other _ _ hcg).other _ _ hcg, (((h.2.2.2.setCell (p := ⟨g, p0, none⟩) hw _).setCell (p := ⟨g, p1, none⟩) hw _).setCell (p := ⟨g, p2, none⟩) hw _).setCell (p := ⟨g, p3, none⟩) hw _⟩⟩
     case measure => simp [intOf]; omega
    ·have hj8 : j = 8 := by omega
     subst hj8
     have hl8 := bytesTo_len x 8
     have hcv := run_convert_bytes_back (P := Tryz.prog) wr 22 9 5 ⟨g, 0, none⟩ 32 (bytesTo x 8) Tryz.underlying22 Tryz.underlying5 Tryz.underlying9 (fun i hi => by
      rw [show (⟨g, 0, none⟩ : Addr).add i = ⟨g, i, none⟩ by unfold Addr.add; split <;> simp_all, H.out.2.1.cell i (by omega), H.out.1 i (by omega), List.getD_eq_getElem?_getD, List.getElem?_eq_getElem hi]
      rfl)
     rw [hl8] at hcv
     clear hl8
     go_wp2_with fail
     go_ret
     exact ⟨by rw [bytesTo_all, HD.out]; rfl, H.out.2.2.2⟩
theorem tabIs_of_reads {P : Program} {W : World} {name : String} {k : IntKind} {zs : List Int} {g : Nat} {t e : TypeId} {n : Nat}
  (hg : P.globalNamed name = some g) (hty : (P.globals[g]?).map (·.type) = some t) (ht : P.underlying t = some (.array n e)) (he : P.underlying e = some (.int k)) (hce : P.cellsOf e = 1) (hct : P.cellsOf t = n)
  (h : Lib.VarReads P W name (Lib.tabData k zs)) : Lib.TabIs P W name k zs := by
 obtain ⟨g', t', cs, fuel, p, hg', ht', hvar, hd⟩ := h
 obtain rfl := Option.some.inj (hg.symm.trans hg')
 obtain rfl := Option.some.inj (hty.symm.trans ht')
 unfold Lib.TabIs
 rw [hvar, <- Lib.cells_of_tab ht he hce hct hd]
theorem keysType : (Tryz.prog.globals[2]?).map (·.type) = some 288 := by kernel_rfl
theorem startType : (Tryz.prog.globals[1]?).map (·.type) = some 286 := by kernel_rfl
theorem cells64 : Tryz.prog.cellsOf 288 = 64 := by kernel_rfl
theorem cells8D : Tryz.prog.cellsOf 286 = 8 := by kernel_rfl
theorem cellsU32 : Tryz.prog.cellsOf 285 = 1 := by kernel_rfl
theorem tables_of {W : World} (h : laidMetH Tryz.prog [("loop.example/g00394/impl.roundNumbers", Lib.tabData .u32 (keysN.map fun n => ((n : Nat) : Int))), ("loop.example/g00394/impl.startNumbers", Lib.tabData .u32 firstI)] W) : KeysOk W /\ StartOk W :=
 ⟨tabIs_of_reads gKeys keysType Tryz.underlying288 Tryz.underlying285 cellsU32 cells64 (Lib.laidMet.reads h (.head _)),
  tabIs_of_reads gStart startType Tryz.underlying286 Tryz.underlying285 cellsU32 cells8D (Lib.laidMet.reads h (.tail _ (.head _)))⟩
def cutB (s : ByteArray) (n : Int) : ByteArray := if 1 <= n /\ n <= 32 then (digB s).extract 0 n.toNat else ⟨#[]⟩
theorem cutB_no {s : ByteArray} {n : Int} (h : ¬ (1 <= n /\ n <= 32)) : cutB s n = ⟨#[]⟩ := by unfold cutB; rw [if_neg h]
theorem cutB_yes {s : ByteArray} {n : Nat} (h : 1 <= (n : Int) /\ (n : Int) <= 32) : cutB s (n : Int) = (digB s).extract 0 n := by unfold cutB; rw [if_pos h, Int.toNat_natCast]
set_option maxHeartbeats 400000 in
theorem implCut_any (s : ByteArray) (n : Int) (w : World) (hs : s.size <= 1000000000) (hT : KeysOk w) (hS : StartOk w) : Calls Tryz.prog 210 #[.string s, .int .i64 n] w fun e w' => e = .returned (.string (cutB s n)) /\ Below w.heap.size w w' := by
 by_cases h : 1 <= n /\ n <= 32
 ·obtain ⟨m, rfl⟩ := Int.eq_ofNat_of_zero_le (show 0 <= n by omega)
  rw [cutB_yes h]
  have HD := implDigest_any s w hs hT hS
  have hz := digB_size s
  obtain ⟨h1, h2⟩ := h
  have h3 : ¬ (m : Int) < 1 := by omega
  have h4 : ¬ (32 : Int) < (m : Int) := by omega
  clear hT hS
  go_enter Tryz.func210, Tryz.ntmps210
  go_wp2_with fail
  refine HD.mono ?_
  rintro e w2 ⟨rfl, hb2⟩
  go_wp2_with fail
  go_ret
  exact ⟨rfl, hb2⟩
 ·rw [cutB_no h]
  clear hT hS
  by_cases h3 : n < 1
  ·go_enter Tryz.func210, Tryz.ntmps210
   go_wp2_with fail
   go_ret
   exact ⟨rfl, Below.refl _ _⟩
  ·have h4 : (32 : Int) < n := by omega
   go_enter Tryz.func210, Tryz.ntmps210
   go_wp2_with fail
   go_ret
   exact ⟨rfl, Below.refl _ _⟩
end Go.Proofs.YtjgbmnhoajiabaaGreatDoor
