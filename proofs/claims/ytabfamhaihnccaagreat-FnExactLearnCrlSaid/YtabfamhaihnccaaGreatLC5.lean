/-
  Texts of the proof.
-/
import Derived.SliceStrings
import Derived.Deep.RegionHeld3
import Derived.Laws.OwnMore
import Derived.Test.YtabfamhaihnccaaGreatLC4
set_option linter.unusedVariables false
set_option linter.unusedSimpArgs false
set_option maxRecDepth 100000
set_option maxHeartbeats 25600000
namespace Go.Proofs.YtabfamhaihnccaaGreat
open Go.RowKit
def Wd (l : List Int) : Prop := ∀ x ∈ l, -9223372036854775808 <= x /\ x <= 9223372036854775807
def ArgAt (B : Nat) (w : World) (a0 : Option Addr) (l : List Int) : Prop := ∀ j, j < l.length -> ∃ b off, a0 = some ⟨b, off, none⟩ /\ b < B /\ w.cell? ⟨b, off + j, none⟩ = some (zI (l.getD j 0))
theorem ArgAt.below {B : Nat} {w w' : World} {a0 : Option Addr} {l : List Int} (h : ArgAt B w a0 l) (hb : Below B w w') : ArgAt B w' a0 l := fun j hj => by
 obtain ⟨b, off, e, hbB, hc⟩ := h j hj;exact ⟨b, off, e, hbB, (hb.cell (p := ⟨b, off + j, none⟩) hbB).trans hc⟩
theorem lt_of_cell {w : World} {p : Addr} {v : Value} (h : w.cell? p = some v) : p.block < w.heap.size := by
 rcases Nat.lt_or_ge p.block w.heap.size with h1 | h1
 ·exact h1
 ·unfold World.cell? at h
  rw [Array.getElem?_eq_none h1] at h;simp at h
theorem argAt_of {W : World} {x : Addr} {len cap : Nat} {zs : List Int} (hl : len <= cap) (hz : zs.length = cap) (hcell : ∀ i, i < zs.length -> W.cell? (x.add i) = some (.int .i64 (zs.getD i 0))) (hwz : ∀ n ∈ zs, (Lit.int .i64 n).wf = true) :
  (zs.take len).length = len /\ Wd (zs.take len) /\ ArgAt W.heap.size W (some x) (zs.take len) := by
 have hlen : (zs.take len).length = len := by simp; omega
 refine ⟨hlen, fun n hn => ?_, fun j hj => ?_⟩
 ·have hw := hwz n (List.mem_of_mem_take hn)
  simpa [Lit.wf, IntKind.min, IntKind.max, IntKind.signed, IntKind.bits] using hw
 ·rw [hlen] at hj
  have hc := hcell j (by omega);have hc0 := hcell 0 (by omega);obtain ⟨b, off, spot⟩ := x;have hspot : spot = none := by simpa [Addr.add] using World.cell?_spot hc0
  subst hspot;rw [Addr.add_lit] at hc;refine ⟨b, off, rfl, lt_of_cell hc, ?_⟩;rw [hc, getD_take hj]
def Ap (u v : Value) : Prop := u.ownBlock = none ∨ u.ownBlock ≠ v.ownBlock
theorem mark_any (v : Value) (l : List Int) (k base : Nat) (w : World) (hl : l.length <= 1000000000) (hk : k <= 1000000000) (hv : OwnI w base v l) :
  Calls Tryz.prog 57 #[v, zI k] w fun e w' => e = .returned (zI ((k : Int) + (l.length : Int))) /\ OwnI w' base v (marksI k l.length) /\ w.grownBy w' v.ownBlock := by
 obtain ⟨n, hn⟩ := zE (l.length);have HN : Hid (l.length = n) := hn;obtain ⟨ao, cap, rfl, hc, _⟩ := hv.shape;rw [hn] at hc hl;have hv' : OwnI w base (zS ao n cap) l := hn ▸ hv;rw [hn];have HV : Hid (OwnI w base (zS ao n cap) l) := hv';have HC : Hid (0 < n -> ∃ g, ao = some ⟨g, 0, none⟩) := hc;clear hv hv' hc hn;go_enter Tryz.func57, Tryz.ntmps57
 go_wp2
 go_loopw [1, 5] (fun kv iv wr => ∃ (j : Nat) (L : List Int), j <= n /\ kv = zI ((k : Int) + (j : Int)) /\ iv = zI j /\ Hid (L.length = n /\ (∀ i, i < j -> L.getD i 0 = (k : Int) + (i : Int)) /\ OwnI wr base (zS ao n cap) L /\ w.grownBy wr (Value.slice ao n cap).ownBlock)) (fun _ iv _ => n - (intOf iv).toNat)
 case atStart => exact ⟨0, l, Nat.zero_le _, by simp, rfl, HN.out, fun i hi => by omega, HV.out, World.grownBy.refl _ _⟩
 case round =>
  obtain ⟨j, L, hj, rfl, rfl, H⟩ := hrel;by_cases hlt : j < n
  ·obtain ⟨g, hao⟩ := HC.out (by omega)
   subst hao;have hL := H.1;have hO : OwnI wr base (zS (some ⟨g, 0, none⟩) L.length cap) L := by rw [hL]; exact H.2.2.1
   have hu := hO.cell (j := j) (by omega);have hf := hO.frozen j;have HX : Hid ((L.set j ((k : Int) + (j : Int))).length = n /\ (∀ i, i < j + 1 -> (L.set j ((k : Int) + (j : Int))).getD i 0 = (k : Int) + (i : Int)) /\ OwnI (wr.setCell ⟨g, j, none⟩ (zI ((k : Int) + (j : Int)))) base (zS (some ⟨g, 0, none⟩) n cap) (L.set j ((k : Int) + (j : Int))) /\ w.grownBy (wr.setCell ⟨g, j, none⟩ (zI ((k : Int) + (j : Int)))) (Value.slice (some ⟨g, 0, none⟩) n cap).ownBlock) := by
    refine ⟨by simp [hL], fun i hi => ?_, ?_, grown_trans H.2.2.2 (grown_set wr g j _)⟩
    ·rw [getD_set _ (by omega)]
     by_cases e : i = j
     ·rw [if_pos e, e]
     ·rw [if_neg e]; exact H.2.1 i (by omega)
    ·have h := hO.set j ((k : Int) + (j : Int))
     rw [List.length_set, hL] at h;exact h
   clear H hO hL;generalize L.getD j 0 = z at *;have hji : (j : Int) < (n : Int) := by omega
   have hj0 : (0 : Int) <= (j : Int) := by omega
   go_wp2_with fail
   go_roundw
   case rel => exact ⟨j + 1, _, by omega, by go_num, by go_num, HX.out⟩
   case measure => simp [intOf]; omega
  ·have hjn : j = n := by omega
   subst hjn;have HE : Hid (L = marksI k j) := ext_getD (by rw [H.1, marksI_len]) (fun i hi => by
    rw [H.1] at hi;rw [H.2.1 i hi];simp [marksI, List.getD, hi])
   go_wp2
   go_ret;exact ⟨rfl, by rw [<- HE.out]; exact H.2.2.1, H.2.2.2⟩
theorem held_int (v : Value) (n : Nat) (k : Int) (w : World) (hn : n <= 1000000000) (hk : 0 <= k /\ k <= 1000000000) (hv : IntAt w v (marksI k.toNat n)) :
  Calls Tryz.prog 111 #[v, zI k] w fun e w' => e = .returned (zI (k + (n : Int))) /\ zW w w' := by
 obtain ⟨m, rfl⟩ : ∃ m : Nat, k = (m : Int) := ⟨k.toNat, by omega⟩;exact heldIntS_same v n m w hn (by omega) hv
theorem toIntS_any (a0 : Option Addr) (l : List Int) (len cap B : Nat) (w : World) (hlen : l.length = len) (hl : len <= 1048576) (hB : B <= w.heap.size) (ha : ArgAt B w a0 l) :
  Calls Tryz.prog 45 #[zS a0 len cap] w fun e w' => ∃ v, e = .returned v /\ OwnI w' w.heap.size v l /\ zW w w' := by
 obtain ⟨i0, hi, hz0, hz1, hz2⟩ := info_parts info3;have HA : Hid (ArgAt B w a0 l /\ l.length = len) := ⟨ha, hlen⟩;clear ha hlen;obtain ⟨f, hf⟩ : ∃ f : Nat -> Int, (fun j => l.getD j 0) = f := ⟨_, rfl⟩;have HF : Hid ((fun j => l.getD j 0) = f) := hf;clear hf;go_enter Tryz.func45, Tryz.ntmps45;go_wp2_with (at_make; refine wpList_make_full _ rfl _ _ 45 rfl w.heap.size 3 i0 (zI 0) 1 Tryz.underlying45 hi hz0 hz1 .i64 .i64 _ _ len rfl rfl ?m0 ?m1 ?m2 ?m3 ?m4 ?_)
 case m0 => simp
 case m1 => simp
 case m2 => rw [hz2]; omega
 case m3 => unfold maxLen; omega
 case m4 => exact Nat.le_refl _
 intro w1 hown hgrow;have HO : Hid (OwnI w1 w.heap.size (zS (some ⟨w.heap.size, 0, none⟩) (fillL f 0 len).length len) (fillL f 0 len) /\ zW w w1) := by
  refine ⟨?_, (Below.refl _ _).grown hgrow (Nat.le_refl _) (fun j hj => by cases hj)⟩;rw [fillL_zero];exact OwnI.of_made hown
 clear hown hgrow;go_wp2_with fail
 go_loopw [4] (fun iv wr => ∃ k : Nat, k <= len /\ iv = zI k /\ Hid (OwnI wr w.heap.size (zS (some ⟨w.heap.size, 0, none⟩) (fillL f k len).length len) (fillL f k len) /\ zW w wr)) (fun iv _ => len - (intOf iv).toNat)
 case atStart => exact ⟨0, Nat.zero_le _, rfl, HO.out⟩
 case round =>
  obtain ⟨k, hk, rfl, H⟩ := hrel;clear HO;have hfl := fillL_len f k len;by_cases hkn : k < len
  ·have hu := H.1.cell (j := k) (by omega)
   have hfz := H.1.frozen k;obtain ⟨b, off, hao, hbB, hcs⟩ := HA.1 k (by rw [HA.2]; exact hkn);have hua : wr.cell? ⟨b, off + k, none⟩ = some (zI (l.getD k 0)) := by
    rw [H.2.cell (p := ⟨b, off + k, none⟩) (by show b < w.heap.size; omega), hcs]
   subst hao;have hfk : l.getD k 0 = f k := congrFun HF.out k;rw [hfk] at hua;have HN : Hid (OwnI (wr.setCell ⟨w.heap.size, k, none⟩ (zI (f k))) w.heap.size (zS (some ⟨w.heap.size, 0, none⟩) (fillL f (k + 1) len).length len) (fillL f (k + 1) len) /\ zW w (wr.setCell ⟨w.heap.size, k, none⟩ (zI (f k)))) :=
    ⟨by have := H.1.set k (f k); rwa [fillL_set f k _ hkn] at this, Below.setCell (p := ⟨w.heap.size, k, none⟩) H.2 (Nat.le_refl _) _⟩
   clear hfk H hfl hcs hbB;generalize f k = x at *;generalize (fillL f k len).getD k 0 = z at *;have hki : (k : Int) < (len : Int) := by omega
   have hk0 : (0 : Int) <= (k : Int) := by omega
   go_wp2_with fail
   go_roundw
   case rel => exact ⟨k + 1, by omega, by go_num, HN.out⟩
   case measure => simp [intOf]; omega
  ·have hkl : k = len := by omega
   subst hkl;have HE : Hid (fillL f k k = l) := by
    rw [<- HF.out];refine ext_getD (by rw [fillL_len, HA.2]) fun j hj => ?_
    rw [fillL_len] at hj;rw [fillL_getD, if_pos ⟨hj, hj⟩]
   go_wp2
   go_ret;refine ⟨_, rfl, ?_, H.2⟩;have h := H.1;rw [HE.out, HA.2] at h;exact h
def cellsT (l : List ByteArray) : List Value := l.map Value.string
theorem cellsT_len (l : List ByteArray) : (cellsT l).length = l.length := by simp [cellsT]
theorem cellsT_set (l : List ByteArray) (k : Nat) (x : ByteArray) : (cellsT l).set k (zG x) = cellsT (l.set k x) := by simp [cellsT]
theorem cellsT_append (a b : List ByteArray) : cellsT (a ++ b) = cellsT a ++ cellsT b := by simp [cellsT]
theorem cellsT_getD {l : List ByteArray} {j : Nat} (h : j < l.length) : (cellsT l)[j]? = some (zG (l.getD j ByteArray.empty)) := by simp [cellsT, List.getD, h]
def TxtAt (w : World) (v : Value) (l : List ByteArray) : Prop := ∃ ao cap, v = zS ao l.length cap /\ ∀ j, j < l.length -> ∃ g, ao = some ⟨g, 0, none⟩ /\ g < w.heap.size /\ w.cell? ⟨g, j, none⟩ = some (zG (l.getD j ByteArray.empty))
theorem TxtAt.below {w w' : World} {v : Value} {l : List ByteArray} (h : TxtAt w v l) (hb : zW w w') : TxtAt w' v l := by
 obtain ⟨ao, cap, hv, h⟩ := h;refine ⟨ao, cap, hv, fun j hj => ?_⟩;obtain ⟨g, hg, hlt, hc⟩ := h j hj;exact ⟨g, hg, Nat.lt_of_lt_of_le hlt hb.size, by rw [hb.cell (p := ⟨g, j, none⟩) hlt]; exact hc⟩
def OwnT (w : World) (base : Nat) (v : Value) (l : List ByteArray) : Prop := w.ownsRow base 9 1 v l.length (cellsT l)
theorem OwnT.at {w : World} {base : Nat} {v : Value} {l : List ByteArray} (h : OwnT w base v l) : TxtAt w v l := by
 have hc := fun g (hg : v.ownBlock = some g) => (World.ownsRow.lt h g hg).2
 have h' := h;obtain ⟨h1, h2⟩ := h
 rcases h2 with ⟨rfl, h0⟩ | ⟨g, cap, cur, rfl, hbg, hg, r⟩
 ·exact ⟨none, 0, by rw [h0], fun j hj => by omega⟩
 ·refine ⟨some ⟨g, 0, none⟩, cap, rfl, fun j hj => ⟨g, rfl, hc g rfl, ?_⟩⟩
  rw [World.ownsRow.cellAt h' j (by omega), cellsT_getD hj]
theorem OwnT.stays {w w' : World} {base : Nat} {v : Value} {l : List ByteArray} (h : OwnT w base v l) (hb : zW w w') : OwnT w' base v l := by
 obtain ⟨h1, h2⟩ := h;refine ⟨h1, ?_⟩
 rcases h2 with h2 | ⟨g, cap, cur, hv, hbg, hg, r⟩
 ·exact .inl h2
 ·have hlt : g < w.heap.size := by
   rcases Nat.lt_or_ge g w.heap.size with h | h
   ·exact h
   ·rw [Array.getElem?_eq_none h] at hg; cases hg
  exact .inr ⟨g, cap, cur, hv, hbg, by rw [hb.block g hlt]; exact hg, r⟩
theorem OwnT.cell {w : World} {base g cap : Nat} {l : List ByteArray} (h : OwnT w base (zS (some ⟨g, 0, none⟩) l.length cap) l) {j : Nat} (hj : j < l.length) : w.cell? ⟨g, j, none⟩ = some (zG (l.getD j ByteArray.empty)) := by
 rw [World.ownsRow.cellAt h j (by omega), cellsT_getD hj]
theorem OwnT.frozen {w : World} {base g cap : Nat} {l : List ByteArray} (h : OwnT w base (zS (some ⟨g, 0, none⟩) l.length cap) l) (j : Nat) : w.frozen? ⟨g, j, none⟩ = false := World.ownsRow.frozenAt h j
theorem OwnT.set {w : World} {base g cap : Nat} {l : List ByteArray} (h : OwnT w base (zS (some ⟨g, 0, none⟩) l.length cap) l) (j : Nat) (x : ByteArray) :
  OwnT (w.setCell ⟨g, j, none⟩ (zG x)) base (zS (some ⟨g, 0, none⟩) (l.set j x).length cap) (l.set j x) := by
 have := (World.ownsRow.stored h j (zG x)).1;rw [cellsT_set] at this;unfold OwnT;rw [List.length_set];exact this
def ArgT (B : Nat) (w : World) (a0 : Option Addr) (l : List ByteArray) : Prop := ∀ j, j < l.length -> ∃ b off, a0 = some ⟨b, off, none⟩ /\ b < B /\ w.cell? ⟨b, off + j, none⟩ = some (zG (l.getD j ByteArray.empty))
theorem ArgT.below {B : Nat} {w w' : World} {a0 : Option Addr} {l : List ByteArray} (h : ArgT B w a0 l) (hb : Below B w w') : ArgT B w' a0 l := fun j hj => by
 obtain ⟨b, off, e, hbB, hc⟩ := h j hj;exact ⟨b, off, e, hbB, (hb.cell (p := ⟨b, off + j, none⟩) hbB).trans hc⟩
def WdT (l : List ByteArray) : Prop := ∀ s ∈ l, s.size <= 9223372036854775807
theorem argT_of {W : World} {x : Addr} {len cap : Nat} {zs : List ByteArray} (hl : len <= cap) (hz : zs.length = cap) (hcell : ∀ i, i < zs.length -> W.cell? (x.add i) = some (zG (zs.getD i ByteArray.empty))) (hsz : ∀ s ∈ zs, s.size <= maxLen) :
  (zs.take len).length = len /\ WdT (zs.take len) /\ ArgT W.heap.size W (some x) (zs.take len) := by
 have hlen : (zs.take len).length = len := by simp; omega
 refine ⟨hlen, fun n hn => hsz n (List.mem_of_mem_take hn), fun j hj => ?_⟩;rw [hlen] at hj;have hc := hcell j (by omega);have hc0 := hcell 0 (by omega);obtain ⟨b, off, spot⟩ := x;have hspot : spot = none := by simpa [Addr.add] using World.cell?_spot hc0
 subst hspot;rw [Addr.add_lit] at hc;refine ⟨b, off, rfl, lt_of_cell hc, ?_⟩;rw [hc];simp [List.getD, hj]
theorem info9 : (Tryz.prog.info? 9).map (fun i => (i.zero, i.size, i.bytes)) = some (some (zG ByteArray.empty), 1, 16) := by kernel_rfl
def fillT (f : Nat -> ByteArray) (k n : Nat) : List ByteArray := (List.range n).map fun j => if j < k then f j else ByteArray.empty
theorem fillT_len (f : Nat -> ByteArray) (k n : Nat) : (fillT f k n).length = n := by simp [fillT]
theorem fillT_zero (f : Nat -> ByteArray) (n : Nat) : fillT f 0 n = List.replicate n ByteArray.empty := by
 apply List.ext_getElem (by simp [fillT]);intro j h1 h2;simp [fillT]
theorem fillT_set (f : Nat -> ByteArray) (k n : Nat) (hk : k < n) : (fillT f k n).set k (f k) = fillT f (k + 1) n := by
 apply List.ext_getElem (by simp [fillT]);intro j h1 h2;simp only [fillT, List.getElem_set, List.getElem_map, List.getElem_range];by_cases e : k = j
 ·subst e; simp
 ·rw [if_neg e]
  by_cases h : j < k
  ·rw [if_pos h, if_pos (by omega)]
  ·rw [if_neg h, if_neg (by omega)]
theorem fillT_all (l : List ByteArray) : fillT (fun j => l.getD j ByteArray.empty) l.length l.length = l := by
 apply List.ext_getElem (by simp [fillT]);intro j h1 h2;simp [fillT, List.getD, h2]
theorem made_texts (n : Nat) : (madeCells #[Value.string ByteArray.empty] n).toList = cellsT (List.replicate n ByteArray.empty) := by
 apply List.ext_getElem (by simp [madeCells, cellsT]);intro j h1 h2;simp [madeCells, cellsT, Nat.mod_one]
theorem OwnT.of_made {w : World} {base g n : Nat} (h : w.ownsRow base 9 1 (zS (some ⟨g, 0, none⟩) n n) n (madeCells #[Value.string ByteArray.empty] n).toList) :
  OwnT w base (zS (some ⟨g, 0, none⟩) (List.replicate n ByteArray.empty).length n) (List.replicate n ByteArray.empty) := by
 rw [made_texts] at h;unfold OwnT;rw [List.length_replicate];exact h
theorem toStringS_any (a0 : Option Addr) (l : List ByteArray) (len cap B : Nat) (w : World) (hlen : l.length = len) (hl : len <= 1048576) (hB : B <= w.heap.size) (ha : ArgT B w a0 l) :
  Calls Tryz.prog 46 #[zS a0 len cap] w fun e w' => ∃ v, e = .returned v /\ OwnT w' w.heap.size v l /\ zW w w' := by
 obtain ⟨i0, hi, hz0, hz1, hz2⟩ := info_parts info9;have HA : Hid (ArgT B w a0 l /\ l.length = len) := ⟨ha, hlen⟩;clear ha hlen;obtain ⟨f, hf⟩ : ∃ f : Nat -> ByteArray, (fun j => l.getD j ByteArray.empty) = f := ⟨_, rfl⟩;have HF : Hid ((fun j => l.getD j ByteArray.empty) = f) := hf;clear hf;go_enter Tryz.func46, Tryz.ntmps46;go_wp2_with (at_make; refine wpList_make_full _ rfl _ _ 46 rfl w.heap.size 9 i0 (zG ByteArray.empty) 1 Tryz.underlying46 hi hz0 hz1 .i64 .i64 _ _ len rfl rfl ?m0 ?m1 ?m2 ?m3 ?m4 ?_)
 case m0 => simp
 case m1 => simp
 case m2 => rw [hz2]; omega
 case m3 => unfold maxLen; omega
 case m4 => exact Nat.le_refl _
 intro w1 hown hgrow;have HO : Hid (OwnT w1 w.heap.size (zS (some ⟨w.heap.size, 0, none⟩) (fillT f 0 len).length len) (fillT f 0 len) /\ zW w w1) := by
  refine ⟨?_, (Below.refl _ _).grown hgrow (Nat.le_refl _) (fun j hj => by cases hj)⟩;rw [fillT_zero];exact OwnT.of_made hown
 clear hown hgrow;go_wp2_with fail
 go_loopw [4] (fun iv wr => ∃ k : Nat, k <= len /\ iv = zI k /\ Hid (OwnT wr w.heap.size (zS (some ⟨w.heap.size, 0, none⟩) (fillT f k len).length len) (fillT f k len) /\ zW w wr)) (fun iv _ => len - (intOf iv).toNat)
 case atStart => exact ⟨0, Nat.zero_le _, rfl, HO.out⟩
 case round =>
  obtain ⟨k, hk, rfl, H⟩ := hrel;clear HO;have hfl := fillT_len f k len;by_cases hkn : k < len
  ·have hu := H.1.cell (j := k) (by omega)
   have hfz := H.1.frozen k;obtain ⟨b, off, hao, hbB, hcs⟩ := HA.1 k (by rw [HA.2]; exact hkn);have hua : wr.cell? ⟨b, off + k, none⟩ = some (zG (l.getD k ByteArray.empty)) := by
    rw [H.2.cell (p := ⟨b, off + k, none⟩) (by show b < w.heap.size; omega), hcs]
   subst hao;have hfk : l.getD k ByteArray.empty = f k := congrFun HF.out k;rw [hfk] at hua;have HN : Hid (OwnT (wr.setCell ⟨w.heap.size, k, none⟩ (zG (f k))) w.heap.size (zS (some ⟨w.heap.size, 0, none⟩) (fillT f (k + 1) len).length len) (fillT f (k + 1) len) /\ zW w (wr.setCell ⟨w.heap.size, k, none⟩ (zG (f k)))) :=
    ⟨by have := H.1.set k (f k); rwa [fillT_set f k _ hkn] at this, Below.setCell (p := ⟨w.heap.size, k, none⟩) H.2 (Nat.le_refl _) _⟩
   clear hfk H hfl hcs hbB;generalize f k = x at *;generalize (fillT f k len).getD k ByteArray.empty = z at *;have hki : (k : Int) < (len : Int) := by omega
   have hk0 : (0 : Int) <= (k : Int) := by omega
   go_wp2_with fail
   go_roundw
   case rel => exact ⟨k + 1, by omega, by go_num, HN.out⟩
   case measure => simp [intOf]; omega
  ·have hkl : k = len := by omega
   subst hkl;have HE : Hid (fillT f k k = l) := by
    rw [<- HF.out, <- HA.2];exact fillT_all l
   go_wp2
   go_ret;refine ⟨_, rfl, ?_, H.2⟩;have h := H.1;rw [HE.out, HA.2] at h;exact h
def totT : List ByteArray -> Nat
 | [] => 0
 | s :: r => s.size + 1 + totT r
theorem tot_len : ∀ l : List ByteArray, l.length <= totT l
 | [] => Nat.le_refl _
 | s :: r => by have := tot_len r; simp only [totT, List.length_cons]; omega
theorem tot_mem : ∀ (l : List ByteArray) (s : ByteArray), s ∈ l -> s.size <= totT l
 | [], s, h => by cases h
 | x :: r, s, h => by
  simp only [totT]
  rcases List.mem_cons.1 h with rfl | h
  ·omega
  ·have := tot_mem r s h; omega
theorem tot_drop (l : List ByteArray) (k : Nat) (h : k < l.length) : totT (l.drop k) = (l.getD k ByteArray.empty).size + 1 + totT (l.drop (k + 1)) := by
 rw [List.drop_eq_getElem_cons h];simp [totT, List.getD, h]
def szT (l : List ByteArray) (left : Int) : Int := if (totT l : Int) <= left then left - totT l else -1
theorem szStringS_any (a0 : Option Addr) (l : List ByteArray) (len cap B : Nat) (left : Int) (w : World) (hlen : l.length = len) (hm : len <= 9223372036854775807) (hwd : WdT l) (h0 : 0 <= left) (hl : left <= 1048576) (hB : B <= w.heap.size) (ha : ArgT B w a0 l) :
  Calls Tryz.prog 42 #[zS a0 len cap, zI left] w fun e w' => e = .returned (zI (szT l left)) /\ zW w w' := by
 have HA : Hid (ArgT B w a0 l /\ l.length = len /\ WdT l) := ⟨ha, hlen, hwd⟩;have hge := tot_len l;by_cases hbig : left < (len : Int)
 ·have HR : Hid (szT l left = -1) := by show szT l left = _; unfold szT; rw [if_neg (by omega)]
  have w1 : IntKind.i64.wrap (left - (len : Int)) = left - (len : Int) := by rw [IntKind.wrap_i64]; omega
  have hneg : left - (len : Int) < 0 := by omega
  clear ha hlen hwd hge;go_enter Tryz.func42, Tryz.ntmps42
  go_wp2
  go_ret;exact ⟨by rw [HR.out]; rfl, Below.refl _ _⟩
 have w1 : IntKind.i64.wrap (left - (len : Int)) = left - (len : Int) := by rw [IntKind.wrap_i64]; omega
 have hneg : ¬ left - (len : Int) < 0 := by omega
 clear ha hlen hwd hge;go_enter Tryz.func42, Tryz.ntmps42
 go_wp2
 go_loopw [1, 5] (fun lv iv wr => ∃ (k : Nat) (r : Int), k <= len /\ lv = zI r /\ iv = zI k /\ 0 <= r /\ r <= 1048576 /\ Hid (left - (totT l : Int) = r - ((totT (l.drop k) : Int) - ((len : Int) - (k : Int)))) /\ zW w wr) (fun _ iv _ => len - (intOf iv).toNat)
 case atStart => exact ⟨0, left - (len : Int), Nat.zero_le _, rfl, rfl, by omega, by omega, by show _ = _; simp; omega, Below.refl _ _⟩
 case round =>
  obtain ⟨k, r, hk, rfl, rfl, hr0, hr1, HR, hbel⟩ := hrel;have hsz := hbel.size;by_cases hkn : k < len
  ·obtain ⟨b, off, hao, hbB, hcs⟩ := HA.1 k (by rw [HA.2.1]; exact hkn)
   have hua : wr.cell? ⟨b, off + k, none⟩ = some (zG (l.getD k ByteArray.empty)) := by
    rw [hbel.cell (p := ⟨b, off + k, none⟩) (by show b < w.heap.size; omega), hcs]
   have htd := tot_drop l k (by rw [HA.2.1]; exact hkn);have hge := tot_len (l.drop (k + 1));rw [List.length_drop, HA.2.1] at hge;have hsx : (l.getD k ByteArray.empty).size <= 9223372036854775807 := HA.2.2 _ (by rw [List.getD_eq_getElem?_getD, List.getElem?_eq_getElem (by rw [HA.2.1]; exact hkn)]; exact List.getElem_mem _);have hR := HR.out;subst hao;generalize l.getD k ByteArray.empty = x at *;have wx : IntKind.i64.wrap (r - (x.size : Int)) = r - (x.size : Int) := by rw [IntKind.wrap_i64]; omega
   have hki : (k : Int) < (len : Int) := by omega
   have hk0 : (0 : Int) <= (k : Int) := by omega
   by_cases hlow : r < (x.size : Int)
   ·have HF : Hid (szT l left = -1) := by show szT l left = _; unfold szT; rw [if_neg (by omega)]
    have hlowi : r - (x.size : Int) < 0 := by omega
    clear hcs htd hge hR HR
    go_wp2
    go_ret;exact ⟨by rw [HF.out]; rfl, hbel⟩
   ·have hlowi : ¬ r - (x.size : Int) < 0 := by omega
    have HN : Hid (left - (totT l : Int) = (r - (x.size : Int)) - ((totT (l.drop (k + 1)) : Int) - ((len : Int) - ((k + 1 : Nat) : Int)))) := by show _ = _; omega
    clear hcs htd hge hR HR
    go_wp2
    go_roundw
    case rel => exact ⟨k + 1, r - (x.size : Int), by omega, by go_num, by go_num, by omega, by omega, HN, hbel⟩
    case measure => simp [intOf]; omega
  ·have hkl : k = len := by omega
   subst hkl;have HF : Hid (szT l left = r) := by
    have hR := HR.out;rw [List.drop_eq_nil_of_le (by rw [HA.2.1]; exact Nat.le_refl _)] at hR;simp only [totT] at hR;show szT l left = _;unfold szT;rw [if_pos (by omega)];omega
   clear HR
   go_wp2
   go_ret;exact ⟨by rw [HF.out]; rfl, hbel⟩
theorem eqT_same (a b : Value) (l : List ByteArray) (w : World) (hl : l.length <= 1000000000) (ha : TxtAt w a l) (hb : TxtAt w b l) : Calls Tryz.prog 53 #[a, b] w fun e w' => e = .returned (.bool true) /\ zW w w' := by
 obtain ⟨ao, ca, rfl, hca⟩ := ha;obtain ⟨bo, cb, rfl, hcb⟩ := hb;have HA : Hid (∀ j, j < l.length -> ∃ g, ao = some ⟨g, 0, none⟩ /\ g < w.heap.size /\ w.cell? ⟨g, j, none⟩ = some (zG (l.getD j ByteArray.empty))) := hca;have HB : Hid (∀ j, j < l.length -> ∃ g, bo = some ⟨g, 0, none⟩ /\ g < w.heap.size /\ w.cell? ⟨g, j, none⟩ = some (zG (l.getD j ByteArray.empty))) := hcb;clear hca hcb;go_enter Tryz.func53, Tryz.ntmps53
 go_wp2
 go_loopw [5] (fun iv wr => ∃ k : Nat, k <= l.length /\ iv = zI k /\ zW w wr) (fun iv _ => l.length - (intOf iv).toNat)
 case atStart => exact ⟨0, Nat.zero_le _, rfl, Below.refl _ _⟩
 case round =>
  obtain ⟨k, hk, rfl, hbel⟩ := hrel;by_cases hlt : k < l.length
  ·obtain ⟨ga, hao, hga, hca⟩ := HA.out k hlt
   obtain ⟨gb, hbo, hgb, hcb⟩ := HB.out k hlt;have c1 : wr.cell? ⟨ga, k, none⟩ = some (zG (l.getD k ByteArray.empty)) := (hbel.cell (p := ⟨ga, k, none⟩) hga).trans hca;have c2 : wr.cell? ⟨gb, k, none⟩ = some (zG (l.getD k ByteArray.empty)) := (hbel.cell (p := ⟨gb, k, none⟩) hgb).trans hcb;generalize l.getD k ByteArray.empty = x at *;subst hao hbo;clear hca hcb;have hki : (k : Int) < (l.length : Int) := by omega
   have hk0 : (0 : Int) <= (k : Int) := by omega
   go_wp2_with fail
   go_region_held3 (fun w' => w'.cell? ⟨ga, k, none⟩ = some (zG x) /\ w'.cell? ⟨gb, k, none⟩ = some (zG x)) (go_keep) (fail)
   all_goals
    go_wp2
    go_roundw
    case rel => exact ⟨k + 1, by omega, by go_num, hbel.drew⟩
    case measure => simp [intOf]; omega
  ·go_wp2
   go_ret;exact ⟨rfl, hbel⟩
end Go.Proofs.YtabfamhaihnccaaGreat
namespace Go.Proofs.YtabfamhaihnccaaGreat
open Go.RowKit
structure Ct where
 serial : Int
 issuer : ByteArray
 subject : ByteArray
 frm : Int
 upto : Int
 key : ByteArray
 ca : Bool
 pathLen : Int
 usage : Int
 pol : List Int
 per : List ByteArray
 den : List ByteArray
 sig : ByteArray
abbrev zCt (c : Ct) (p e d : Value) : Array Value := #[.int .i64 c.serial, .string c.issuer, .string c.subject, .int .i64 c.frm, .int .i64 c.upto, .string c.key, .bool c.ca, .int .i64 c.pathLen, .int .i64 c.usage, p, e, d, .string c.sig]
def ctV (c : Ct) (p e d : Value) : Value := .agg (zCt c p e d)
def CtAt (w : World) (v : Value) (c : Ct) : Prop := ∃ p e d, v = ctV c p e d /\ IntAt w p c.pol /\ TxtAt w e c.per /\ TxtAt w d c.den
theorem CtAt.below {w w' : World} {v : Value} {c : Ct} (h : CtAt w v c) (hb : zW w w') : CtAt w' v c := by
 obtain ⟨p, e, d, hv, h1, h2, h3⟩ := h;exact ⟨p, e, d, hv, h1.below hb, h2.below hb, h3.below hb⟩
def OwnC (w : World) (base : Nat) (v : Value) (c : Ct) : Prop := ∃ p e d, v = ctV c p e d /\ OwnI w base p c.pol /\ OwnT w base e c.per /\ OwnT w base d c.den /\ (Ap p e /\ Ap e p) /\ (Ap p d /\ Ap d p) /\ (Ap e d /\ Ap d e)
theorem OwnC.at {w : World} {base : Nat} {v : Value} {c : Ct} (h : OwnC w base v c) : CtAt w v c := by
 obtain ⟨p, e, d, hv, h1, h2, h3, _⟩ := h;exact ⟨p, e, d, hv, h1.at, h2.at, h3.at⟩
theorem OwnT.base {w : World} {b b' : Nat} {v : Value} {l : List ByteArray} (h : OwnT w b v l) (hb : b' <= b) : OwnT w b' v l := by
 obtain ⟨h1, h2⟩ := h;refine ⟨h1, ?_⟩
 rcases h2 with h2 | ⟨g, cap, cur, hv, hbg, r⟩
 ·exact .inl h2
 ·exact .inr ⟨g, cap, cur, hv, Nat.le_trans hb hbg, r⟩
theorem OwnC.base {w : World} {b b' : Nat} {v : Value} {c : Ct} (h : OwnC w b v c) (hb : b' <= b) : OwnC w b' v c := by
 obtain ⟨p, e, d, hv, h1, h2, h3, h4⟩ := h;exact ⟨p, e, d, hv, h1.base hb, h2.base hb, h3.base hb, h4⟩
theorem rows_apart {w w' : World} {b b' t t' s s' n n' : Nat} {u v : Value} {l l' : List Value} (hu : w.ownsRow b t s u n l) (hv : w'.ownsRow b' t' s' v n' l') (hb : w.heap.size <= b') : Ap u v /\ Ap v u := by
 rcases hv.2 with ⟨rfl, _⟩ | ⟨g', cap', cur', rfl, hbg', _⟩
 ·refine ⟨?_, .inl rfl⟩
  rcases hu.2 with ⟨rfl, _⟩ | ⟨g, cap, cur, rfl, _⟩
  ·exact .inl rfl
  ·exact .inr (by simp [Value.ownBlock])
 ·rcases hu.2 with ⟨rfl, _⟩ | ⟨g, cap, cur, rfl, _, hg, _⟩
  ·exact ⟨.inl rfl, .inr (by simp [Value.ownBlock])⟩
  ·have hlt : g < w.heap.size := by
    rcases Nat.lt_or_ge g w.heap.size with h | h
    ·exact h
    ·rw [Array.getElem?_eq_none h] at hg; cases hg
   exact ⟨.inr (by simp [Value.ownBlock]; omega), .inr (by simp [Value.ownBlock]; omega)⟩
def ArgC (B : Nat) (w : World) (v : Value) (c : Ct) : Prop := ∃ pa pc ea ec da dc, v = ctV c (zS pa c.pol.length pc) (zS ea c.per.length ec) (zS da c.den.length dc) /\ ArgAt B w pa c.pol /\ ArgT B w ea c.per /\ ArgT B w da c.den
theorem ArgC.below {B : Nat} {w w' : World} {v : Value} {c : Ct} (h : ArgC B w v c) (hb : Below B w w') : ArgC B w' v c := by
 obtain ⟨pa, pc, ea, ec, da, dc, hv, h1, h2, h3⟩ := h;exact ⟨pa, pc, ea, ec, da, dc, hv, h1.below hb, h2.below hb, h3.below hb⟩
def wtC (c : Ct) : Nat := c.issuer.size + c.subject.size + c.key.size + c.pol.length + totT c.per + totT c.den + c.sig.size
def WdC (c : Ct) : Prop := Wd [c.serial, c.frm, c.upto, c.pathLen, c.usage] /\ Wd c.pol /\ WdT [c.issuer, c.subject, c.key, c.sig] /\ WdT c.per /\ WdT c.den /\ c.pol.length <= 9223372036854775807 /\ c.per.length <= 9223372036854775807 /\ c.den.length <= 9223372036854775807
def szC (c : Ct) (left : Int) : Int := if (wtC c : Int) <= left then left - wtC c else -1
end Go.Proofs.YtabfamhaihnccaaGreat
