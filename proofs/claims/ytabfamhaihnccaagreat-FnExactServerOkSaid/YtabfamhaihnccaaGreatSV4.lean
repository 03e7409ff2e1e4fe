/-
  Texts of the proof.
-/
import Derived.SliceStrings
import Derived.Deep.RegionHeld3
import Derived.Laws.OwnMore
import Derived.Test.YtabfamhaihnccaaGreatSV3
set_option maxRecDepth 100000
set_option maxHeartbeats 25600000
namespace Go.Proofs.YtabfamhaihnccaaGreat
open Go.RowKit
def Wd (l : List Int) : Prop := ∀ x ∈ l, -9223372036854775808 <= x /\ x <= 9223372036854775807
def ArgAt (B : Nat) (w : World) (a0 : Option Addr) (l : List Int) : Prop := ∀ j, j < l.length -> ∃ b off, a0 = some ⟨b, off, none⟩ /\ b < B /\ w.cell? ⟨b, off + j, none⟩ = some (.int .i64 (l.getD j 0))
theorem ArgAt.below {B : Nat} {w w' : World} {a0 : Option Addr} {l : List Int} (h : ArgAt B w a0 l) (hb : Below B w w') : ArgAt B w' a0 l := fun j hj => by
 obtain ⟨b, off, e, hbB, hc⟩ := h j hj
 exact ⟨b, off, e, hbB, (hb.cell (p := ⟨b, off + j, none⟩) hbB).trans hc⟩
theorem lt_of_cell {w : World} {p : Addr} {v : Value} (h : w.cell? p = some v) : p.block < w.heap.size := by
 rcases Nat.lt_or_ge p.block w.heap.size with h1 | h1
 ·exact h1
 ·unfold World.cell? at h
  rw [Array.getElem?_eq_none h1] at h
  simp at h
theorem argAt_of {W : World} {x : Addr} {len cap : Nat} {zs : List Int} (hl : len <= cap) (hz : zs.length = cap) (hcell : ∀ i, i < zs.length -> W.cell? (x.add i) = some (.int .i64 (zs.getD i 0))) (hwz : ∀ n ∈ zs, (Lit.int .i64 n).wf = true) :
  (zs.take len).length = len /\ Wd (zs.take len) /\ ArgAt W.heap.size W (some x) (zs.take len) := by
 have hlen : (zs.take len).length = len := by simp; omega
 refine ⟨hlen, fun n hn => ?_, fun j hj => ?_⟩
 ·have hw := hwz n (List.mem_of_mem_take hn)
  simpa [Lit.wf, IntKind.min, IntKind.max, IntKind.signed, IntKind.bits] using hw
 ·rw [hlen] at hj
  have hc := hcell j (by omega)
  have hc0 := hcell 0 (by omega)
  obtain ⟨b, off, spot⟩ := x
  have hspot : spot = none := by simpa [Addr.add] using World.cell?_spot hc0
  subst hspot
  rw [Addr.add_lit] at hc
  refine ⟨b, off, rfl, lt_of_cell hc, ?_⟩
  rw [hc, getD_take hj]
def Ap (u v : Value) : Prop := u.ownBlock = none ∨ u.ownBlock ≠ v.ownBlock
theorem toIntS_any (a0 : Option Addr) (l : List Int) (len cap B : Nat) (w : World) (hlen : l.length = len) (hl : len <= 1048576) (hB : B <= w.heap.size) (ha : ArgAt B w a0 l) :
  Calls Tryz.prog 45 #[.slice a0 len cap] w fun e w' => ∃ v, e = .returned v /\ OwnI w' w.heap.size v l /\ Below w.heap.size w w' := by
 obtain ⟨i0, hi, hz0, hz1, hz2⟩ := info_parts info3
 have HA : Hid (ArgAt B w a0 l /\ l.length = len) := ⟨ha, hlen⟩
 clear ha hlen
 obtain ⟨f, hf⟩ : ∃ f : Nat -> Int, (fun j => l.getD j 0) = f := ⟨_, rfl⟩
 have HF : Hid ((fun j => l.getD j 0) = f) := hf
 clear hf
 go_enter Tryz.func45, Tryz.ntmps45
 go_wp2_with (at_make; refine wpList_make_full _ rfl _ _ 45 rfl w.heap.size 3 i0 (.int .i64 0) 1 Tryz.underlying45 hi hz0 hz1 .i64 .i64 _ _ len rfl rfl ?m0 ?m1 ?m2 ?m3 ?m4 ?_)
 case m0 => simp
 case m1 => simp
 case m2 => rw [hz2]; omega
 case m3 => unfold maxLen; omega
 case m4 => exact Nat.le_refl _
 intro w1 hown hgrow
 have HO : Hid (OwnI w1 w.heap.size (.slice (some ⟨w.heap.size, 0, none⟩) (fillL f 0 len).length len) (fillL f 0 len) /\ Below w.heap.size w w1) := by
  refine ⟨?_, (Below.refl _ _).grown hgrow (Nat.le_refl _) (fun j hj => by cases hj)⟩
  rw [fillL_zero]
  exact OwnI.of_made hown
 clear hown hgrow
 go_wp2_with fail
 go_loopw [4] (fun iv wr => ∃ k : Nat, k <= len /\ iv = .int .i64 k /\ Hid (OwnI wr w.heap.size (.slice (some ⟨w.heap.size, 0, none⟩) (fillL f k len).length len) (fillL f k len) /\ Below w.heap.size w wr)) (fun iv _ => len - (intOf iv).toNat)
 case atStart => exact ⟨0, Nat.zero_le _, rfl, HO.out⟩
 case round =>
  obtain ⟨k, hk, rfl, H⟩ := hrel
  clear HO
  have hfl := fillL_len f k len
  by_cases hkn : k < len
  ·have hu := H.out.1.cell (j := k) (by omega)
   have hfz := H.out.1.frozen k
   obtain ⟨b, off, hao, hbB, hcs⟩ := HA.out.1 k (by rw [HA.out.2]; exact hkn)
   have hua : wr.cell? ⟨b, off + k, none⟩ = some (.int .i64 (l.getD k 0)) := by
    rw [H.out.2.cell (p := ⟨b, off + k, none⟩) (by show b < w.heap.size; omega), hcs]
   subst hao
   have hfk : l.getD k 0 = f k := congrFun HF.out k
   rw [hfk] at hua
   have HN : Hid (OwnI (wr.setCell ⟨w.heap.size, k, none⟩ (.int .i64 (f k))) w.heap.size (.slice (some ⟨w.heap.size, 0, none⟩) (fillL f (k + 1) len).length len) (fillL f (k + 1) len) /\ Below w.heap.size w (wr.setCell ⟨w.heap.size, k, none⟩ (.int .i64 (f k)))) :=
    ⟨by have := H.out.1.set k (f k); rwa [fillL_set f k _ hkn] at this, Below.setCell (p := ⟨w.heap.size, k, none⟩) H.out.2 (Nat.le_refl _) _⟩
   clear hfk H hfl hcs hbB
   generalize f k = x at *
   generalize (fillL f k len).getD k 0 = z at *
   have hki : (k : Int) < (len : Int) := by omega
   have hk0 : (0 : Int) <= (k : Int) := by omega
   go_wp2_with fail
   go_roundw
   case rel => exact ⟨k + 1, by omega, by go_num, HN.out⟩
   case measure => simp [intOf]; omega
  ·have hkl : k = len := by omega
   subst hkl
   have HE : Hid (fillL f k k = l) := by
    rw [<- HF.out]
    refine ext_getD (by rw [fillL_len, HA.out.2]) fun j hj => ?_
    rw [fillL_len] at hj
    rw [fillL_getD, if_pos ⟨hj, hj⟩]
   go_wp2
   go_ret
   refine ⟨_, rfl, ?_, H.out.2⟩
   have h := H.out.1
   rw [HE.out, HA.out.2] at h
   exact h
end Go.Proofs.YtabfamhaihnccaaGreat
namespace Go.Proofs.YtabfamhaihnccaaGreat
open Go.RowKit
set_option linter.unusedVariables false
def cellsT (l : List ByteArray) : List Value := l.map Value.string
theorem cellsT_len (l : List ByteArray) : (cellsT l).length = l.length := by simp [cellsT]
theorem cellsT_set (l : List ByteArray) (k : Nat) (x : ByteArray) : (cellsT l).set k (.string x) = cellsT (l.set k x) := by simp [cellsT]
theorem cellsT_append (a b : List ByteArray) : cellsT (a ++ b) = cellsT a ++ cellsT b := by simp [cellsT]
theorem cellsT_getD {l : List ByteArray} {j : Nat} (h : j < l.length) : (cellsT l)[j]? = some (.string (l.getD j ByteArray.empty)) := by simp [cellsT, List.getD, h]
def TxtAt (w : World) (v : Value) (l : List ByteArray) : Prop := ∃ ao cap, v = .slice ao l.length cap /\ ∀ j, j < l.length -> ∃ g, ao = some ⟨g, 0, none⟩ /\ g < w.heap.size /\ w.cell? ⟨g, j, none⟩ = some (.string (l.getD j ByteArray.empty))
theorem TxtAt.below {w w' : World} {v : Value} {l : List ByteArray} (h : TxtAt w v l) (hb : Below w.heap.size w w') : TxtAt w' v l := by
 obtain ⟨ao, cap, hv, h⟩ := h
 refine ⟨ao, cap, hv, fun j hj => ?_⟩
 obtain ⟨g, hg, hlt, hc⟩ := h j hj
 exact ⟨g, hg, Nat.lt_of_lt_of_le hlt hb.size, by rw [hb.cell (p := ⟨g, j, none⟩) hlt]; exact hc⟩
def OwnT (w : World) (base : Nat) (v : Value) (l : List ByteArray) : Prop := w.ownsRow base 9 1 v l.length (cellsT l)
theorem OwnT.at {w : World} {base : Nat} {v : Value} {l : List ByteArray} (h : OwnT w base v l) : TxtAt w v l := by
 have hc := fun g (hg : v.ownBlock = some g) => (World.ownsRow.lt h g hg).2
 have h' := h
 obtain ⟨h1, h2⟩ := h
 rcases h2 with ⟨rfl, h0⟩ | ⟨g, cap, cur, rfl, hbg, hg, r⟩
 ·exact ⟨none, 0, by rw [h0], fun j hj => by omega⟩
 ·refine ⟨some ⟨g, 0, none⟩, cap, rfl, fun j hj => ⟨g, rfl, hc g rfl, ?_⟩⟩
  rw [World.ownsRow.cellAt h' j (by omega), cellsT_getD hj]
theorem OwnT.stays {w w' : World} {base : Nat} {v : Value} {l : List ByteArray} (h : OwnT w base v l) (hb : Below w.heap.size w w') : OwnT w' base v l := by
 obtain ⟨h1, h2⟩ := h
 refine ⟨h1, ?_⟩
 rcases h2 with h2 | ⟨g, cap, cur, hv, hbg, hg, r⟩
 ·exact .inl h2
 ·have hlt : g < w.heap.size := by
   rcases Nat.lt_or_ge g w.heap.size with h | h
   ·exact h
   ·rw [Array.getElem?_eq_none h] at hg; cases hg
  exact .inr ⟨g, cap, cur, hv, hbg, by rw [hb.block g hlt]; exact hg, r⟩
theorem OwnT.cell {w : World} {base g cap : Nat} {l : List ByteArray} (h : OwnT w base (.slice (some ⟨g, 0, none⟩) l.length cap) l) {j : Nat} (hj : j < l.length) : w.cell? ⟨g, j, none⟩ = some (.string (l.getD j ByteArray.empty)) := by
 rw [World.ownsRow.cellAt h j (by omega), cellsT_getD hj]
theorem OwnT.frozen {w : World} {base g cap : Nat} {l : List ByteArray} (h : OwnT w base (.slice (some ⟨g, 0, none⟩) l.length cap) l) (j : Nat) : w.frozen? ⟨g, j, none⟩ = false := World.ownsRow.frozenAt h j
theorem OwnT.set {w : World} {base g cap : Nat} {l : List ByteArray} (h : OwnT w base (.slice (some ⟨g, 0, none⟩) l.length cap) l) (j : Nat) (x : ByteArray) :
  OwnT (w.setCell ⟨g, j, none⟩ (.string x)) base (.slice (some ⟨g, 0, none⟩) (l.set j x).length cap) (l.set j x) := by
 have := (World.ownsRow.stored h j (.string x)).1
 rw [cellsT_set] at this
 unfold OwnT
 rw [List.length_set]
 exact this
def ArgT (B : Nat) (w : World) (a0 : Option Addr) (l : List ByteArray) : Prop := ∀ j, j < l.length -> ∃ b off, a0 = some ⟨b, off, none⟩ /\ b < B /\ w.cell? ⟨b, off + j, none⟩ = some (.string (l.getD j ByteArray.empty))
theorem ArgT.below {B : Nat} {w w' : World} {a0 : Option Addr} {l : List ByteArray} (h : ArgT B w a0 l) (hb : Below B w w') : ArgT B w' a0 l := fun j hj => by
 obtain ⟨b, off, e, hbB, hc⟩ := h j hj
 exact ⟨b, off, e, hbB, (hb.cell (p := ⟨b, off + j, none⟩) hbB).trans hc⟩
def WdT (l : List ByteArray) : Prop := ∀ s ∈ l, s.size <= 9223372036854775807
theorem argT_of {W : World} {x : Addr} {len cap : Nat} {zs : List ByteArray} (hl : len <= cap) (hz : zs.length = cap) (hcell : ∀ i, i < zs.length -> W.cell? (x.add i) = some (.string (zs.getD i ByteArray.empty))) (hsz : ∀ s ∈ zs, s.size <= maxLen) :
  (zs.take len).length = len /\ WdT (zs.take len) /\ ArgT W.heap.size W (some x) (zs.take len) := by
 have hlen : (zs.take len).length = len := by simp; omega
 refine ⟨hlen, fun n hn => hsz n (List.mem_of_mem_take hn), fun j hj => ?_⟩
 rw [hlen] at hj
 have hc := hcell j (by omega)
 have hc0 := hcell 0 (by omega)
 obtain ⟨b, off, spot⟩ := x
 have hspot : spot = none := by simpa [Addr.add] using World.cell?_spot hc0
 subst hspot
 rw [Addr.add_lit] at hc
 refine ⟨b, off, rfl, lt_of_cell hc, ?_⟩
 rw [hc]
 simp [List.getD, hj]
theorem info9 : (Tryz.prog.info? 9).map (fun i => (i.zero, i.size, i.bytes)) = some (some (.string ByteArray.empty), 1, 16) := by kernel_rfl
def fillT (f : Nat -> ByteArray) (k n : Nat) : List ByteArray := (List.range n).map fun j => if j < k then f j else ByteArray.empty
theorem fillT_len (f : Nat -> ByteArray) (k n : Nat) : (fillT f k n).length = n := by simp [fillT]
theorem fillT_zero (f : Nat -> ByteArray) (n : Nat) : fillT f 0 n = List.replicate n ByteArray.empty := by
 apply List.ext_getElem (by simp [fillT])
 intro j h1 h2
 simp [fillT]
theorem fillT_set (f : Nat -> ByteArray) (k n : Nat) (hk : k < n) : (fillT f k n).set k (f k) = fillT f (k + 1) n := by
 apply List.ext_getElem (by simp [fillT])
 intro j h1 h2
 simp only [fillT, List.getElem_set, List.getElem_map, List.getElem_range]
 by_cases e : k = j
 ·subst e; simp
 ·rw [if_neg e]
  by_cases h : j < k
  ·rw [if_pos h, if_pos (by omega)]
  ·rw [if_neg h, if_neg (by omega)]
theorem fillT_all (l : List ByteArray) : fillT (fun j => l.getD j ByteArray.empty) l.length l.length = l := by
 apply List.ext_getElem (by simp [fillT])
 intro j h1 h2
 simp [fillT, List.getD, h2]
theorem made_texts (n : Nat) : (madeCells #[Value.string ByteArray.empty] n).toList = cellsT (List.replicate n ByteArray.empty) := by
 apply List.ext_getElem (by simp [madeCells, cellsT])
 intro j h1 h2
 simp [madeCells, cellsT, Nat.mod_one]
theorem OwnT.of_made {w : World} {base g n : Nat} (h : w.ownsRow base 9 1 (.slice (some ⟨g, 0, none⟩) n n) n (madeCells #[Value.string ByteArray.empty] n).toList) :
  OwnT w base (.slice (some ⟨g, 0, none⟩) (List.replicate n ByteArray.empty).length n) (List.replicate n ByteArray.empty) := by
 rw [made_texts] at h
 unfold OwnT
 rw [List.length_replicate]
 exact h
theorem toStringS_any (a0 : Option Addr) (l : List ByteArray) (len cap B : Nat) (w : World) (hlen : l.length = len) (hl : len <= 1048576) (hB : B <= w.heap.size) (ha : ArgT B w a0 l) :
  Calls Tryz.prog 46 #[.slice a0 len cap] w fun e w' => ∃ v, e = .returned v /\ OwnT w' w.heap.size v l /\ Below w.heap.size w w' := by
 obtain ⟨i0, hi, hz0, hz1, hz2⟩ := info_parts info9
 have HA : Hid (ArgT B w a0 l /\ l.length = len) := ⟨ha, hlen⟩
 clear ha hlen
 obtain ⟨f, hf⟩ : ∃ f : Nat -> ByteArray, (fun j => l.getD j ByteArray.empty) = f := ⟨_, rfl⟩
 have HF : Hid ((fun j => l.getD j ByteArray.empty) = f) := hf
 clear hf
 go_enter Tryz.func46, Tryz.ntmps46
 go_wp2_with (at_make; refine wpList_make_full _ rfl _ _ 46 rfl w.heap.size 9 i0 (.string ByteArray.empty) 1 Tryz.underlying46 hi hz0 hz1 .i64 .i64 _ _ len rfl rfl ?m0 ?m1 ?m2 ?m3 ?m4 ?_)
 case m0 => simp
 case m1 => simp
 case m2 => rw [hz2]; omega
 case m3 => unfold maxLen; omega
 case m4 => exact Nat.le_refl _
 intro w1 hown hgrow
 have HO : Hid (OwnT w1 w.heap.size (.slice (some ⟨w.heap.size, 0, none⟩) (fillT f 0 len).length len) (fillT f 0 len) /\ Below w.heap.size w w1) := by
  refine ⟨?_, (Below.refl _ _).grown hgrow (Nat.le_refl _) (fun j hj => by cases hj)⟩
  rw [fillT_zero]
  exact OwnT.of_made hown
 clear hown hgrow
 go_wp2_with fail
 go_loopw [4] (fun iv wr => ∃ k : Nat, k <= len /\ iv = .int .i64 k /\ Hid (OwnT wr w.heap.size (.slice (some ⟨w.heap.size, 0, none⟩) (fillT f k len).length len) (fillT f k len) /\ Below w.heap.size w wr)) (fun iv _ => len - (intOf iv).toNat)
 case atStart => exact ⟨0, Nat.zero_le _, rfl, HO.out⟩
 case round =>
  obtain ⟨k, hk, rfl, H⟩ := hrel
  clear HO
  have hfl := fillT_len f k len
  by_cases hkn : k < len
  ·have hu := H.out.1.cell (j := k) (by omega)
   have hfz := H.out.1.frozen k
   obtain ⟨b, off, hao, hbB, hcs⟩ := HA.out.1 k (by rw [HA.out.2]; exact hkn)
   have hua : wr.cell? ⟨b, off + k, none⟩ = some (.string (l.getD k ByteArray.empty)) := by
    rw [H.out.2.cell (p := ⟨b, off + k, none⟩) (by show b < w.heap.size; omega), hcs]
   subst hao
   have hfk : l.getD k ByteArray.empty = f k := congrFun HF.out k
   rw [hfk] at hua
   have HN : Hid (OwnT (wr.setCell ⟨w.heap.size, k, none⟩ (.string (f k))) w.heap.size (.slice (some ⟨w.heap.size, 0, none⟩) (fillT f (k + 1) len).length len) (fillT f (k + 1) len) /\ Below w.heap.size w (wr.setCell ⟨w.heap.size, k, none⟩ (.string (f k)))) :=
    ⟨by have := H.out.1.set k (f k); rwa [fillT_set f k _ hkn] at this, Below.setCell (p := ⟨w.heap.size, k, none⟩) H.out.2 (Nat.le_refl _) _⟩
   clear hfk H hfl hcs hbB
   generalize f k = x at *
   generalize (fillT f k len).getD k ByteArray.empty = z at *
   have hki : (k : Int) < (len : Int) := by omega
   have hk0 : (0 : Int) <= (k : Int) := by omega
   go_wp2_with fail
   go_roundw
   case rel => exact ⟨k + 1, by omega, by go_num, HN.out⟩
   case measure => simp [intOf]; omega
  ·have hkl : k = len := by omega
   subst hkl
   have HE : Hid (fillT f k k = l) := by
    rw [<- HF.out, <- HA.out.2]
    exact fillT_all l
   go_wp2
   go_ret
   refine ⟨_, rfl, ?_, H.out.2⟩
   have h := H.out.1
   rw [HE.out, HA.out.2] at h
   exact h
def totT : List ByteArray -> Nat
 | [] => 0
 | s :: r => s.size + 1 + totT r
theorem tot_len : ∀ l : List ByteArray, l.length <= totT l
 | [] => Nat.le_refl _
 | s :: r => by have := tot_len r; simp only [totT, List.length_cons]; omega
theorem tot_mem : ∀ (l : List ByteArray) (s : ByteArray), s ∈ l -> s.size <= totT l
 | [], s, h => by cases h
 | x :: r, s, h => by
  simp only [totT]
  rcases List.mem_cons.1 h with rfl | h
  ·omega
  ·have := tot_mem r s h; omega
theorem tot_drop (l : List ByteArray) (k : Nat) (h : k < l.length) : totT (l.drop k) = (l.getD k ByteArray.empty).size + 1 + totT (l.drop (k + 1)) := by
 rw [List.drop_eq_getElem_cons h]
 simp [totT, List.getD, h]
def szT (l : List ByteArray) (left : Int) : Int := if (totT l : Int) <= left then left - totT l else -1
theorem szStringS_any (a0 : Option Addr) (l : List ByteArray) (len cap B : Nat) (left : Int) (w : World) (hlen : l.length = len) (hm : len <= 9223372036854775807) (hwd : WdT l) (h0 : 0 <= left) (hl : left <= 1048576) (hB : B <= w.heap.size) (ha : ArgT B w a0 l) :
  Calls Tryz.prog 42 #[.slice a0 len cap, .int .i64 left] w fun e w' => e = .returned (.int .i64 (szT l left)) /\ Below w.heap.size w w' := by
 have HA : Hid (ArgT B w a0 l /\ l.length = len /\ WdT l) := ⟨ha, hlen, hwd⟩
 have hge := tot_len l
 by_cases hbig : left < (len : Int)
 ·have HR : Hid (szT l left = -1) := by show szT l left = _; unfold szT; rw [if_neg (by omega)]
  have w1 : IntKind.i64.wrap (left - (len : Int)) = left - (len : Int) := by rw [IntKind.wrap_i64]; omega
  have hneg : left - (len : Int) < 0 := by omega
  clear ha hlen hwd hge
  go_enter Tryz.func42, Tryz.ntmps42
  go_wp2
  go_ret
  exact ⟨by rw [HR.out]; rfl, Below.refl _ _⟩
 have w1 : IntKind.i64.wrap (left - (len : Int)) = left - (len : Int) := by rw [IntKind.wrap_i64]; omega
 have hneg : ¬ left - (len : Int) < 0 := by omega
 clear ha hlen hwd hge
 go_enter Tryz.func42, Tryz.ntmps42
 go_wp2
 go_loopw [1, 5] (fun lv iv wr => ∃ (k : Nat) (r : Int), k <= len /\ lv = .int .i64 r /\ iv = .int .i64 k /\ 0 <= r /\ r <= 1048576 /\ Hid (left - (totT l : Int) = r - ((totT (l.drop k) : Int) - ((len : Int) - (k : Int)))) /\ Below w.heap.size w wr) (fun _ iv _ => len - (intOf iv).toNat)
 case atStart => exact ⟨0, left - (len : Int), Nat.zero_le _, rfl, rfl, by omega, by omega, by show _ = _; simp; omega, Below.refl _ _⟩
 case round =>
  obtain ⟨k, r, hk, rfl, rfl, hr0, hr1, HR, hbel⟩ := hrel
  have hsz := hbel.size
  by_cases hkn : k < len
  ·obtain ⟨b, off, hao, hbB, hcs⟩ := HA.out.1 k (by rw [HA.out.2.1]; exact hkn)
   have hua : wr.cell? ⟨b, off + k, none⟩ = some (.string (l.getD k ByteArray.empty)) := by
    rw [hbel.cell (p := ⟨b, off + k, none⟩) (by show b < w.heap.size; omega), hcs]
   have htd := tot_drop l k (by rw [HA.out.2.1]; exact hkn)
   have hge := tot_len (l.drop (k + 1))
   rw [List.length_drop, HA.out.2.1] at hge
   have hsx : (l.getD k ByteArray.empty).size <= 9223372036854775807 := HA.out.2.2 _ (by rw [List.getD_eq_getElem?_getD, List.getElem?_eq_getElem (by rw [HA.out.2.1]; exact hkn)]; exact List.getElem_mem _)
   have hR := HR.out
   subst hao
   generalize l.getD k ByteArray.empty = x at *
   have wx : IntKind.i64.wrap (r - (x.size : Int)) = r - (x.size : Int) := by rw [IntKind.wrap_i64]; omega
   have hki : (k : Int) < (len : Int) := by omega
   have hk0 : (0 : Int) <= (k : Int) := by omega
   by_cases hlow : r < (x.size : Int)
   ·have HF : Hid (szT l left = -1) := by show szT l left = _; unfold szT; rw [if_neg (by omega)]
    have hlowi : r - (x.size : Int) < 0 := by omega
    clear hcs htd hge hR HR
    go_wp2
    go_ret
    exact ⟨by rw [HF.out]; rfl, hbel⟩
   ·have hlowi : ¬ r - (x.size : Int) < 0 := by omega
    have HN : Hid (left - (totT l : Int) = (r - (x.size : Int)) - ((totT (l.drop (k + 1)) : Int) - ((len : Int) - ((k + 1 : Nat) : Int)))) := by show _ = _; omega
    clear hcs htd hge hR HR
    go_wp2
    go_roundw
    case rel => exact ⟨k + 1, r - (x.size : Int), by omega, by go_num, by go_num, by omega, by omega, HN, hbel⟩
    case measure => simp [intOf]; omega
  ·have hkl : k = len := by omega
   subst hkl
   have HF : Hid (szT l left = r) := by
    have hR := HR.out
    rw [List.drop_eq_nil_of_le (by rw [HA.out.2.1]; exact Nat.le_refl _)] at hR
    simp only [totT] at hR
    show szT l left = _
    unfold szT
    rw [if_pos (by omega)]
    omega
   clear HR
   go_wp2
   go_ret
   exact ⟨by rw [HF.out]; rfl, hbel⟩
theorem eqT_same (a b : Value) (l : List ByteArray) (w : World) (hl : l.length <= 1000000000) (ha : TxtAt w a l) (hb : TxtAt w b l) : Calls Tryz.prog 53 #[a, b] w fun e w' => e = .returned (.bool true) /\ Below w.heap.size w w' := by
 obtain ⟨ao, ca, rfl, hca⟩ := ha
 obtain ⟨bo, cb, rfl, hcb⟩ := hb
 have HA : Hid (∀ j, j < l.length -> ∃ g, ao = some ⟨g, 0, none⟩ /\ g < w.heap.size /\ w.cell? ⟨g, j, none⟩ = some (.string (l.getD j ByteArray.empty))) := hca
 have HB : Hid (∀ j, j < l.length -> ∃ g, bo = some ⟨g, 0, none⟩ /\ g < w.heap.size /\ w.cell? ⟨g, j, none⟩ = some (.string (l.getD j ByteArray.empty))) := hcb
 clear hca hcb
 go_enter Tryz.func53, Tryz.ntmps53
 go_wp2
 go_loopw [5] (fun iv wr => ∃ k : Nat, k <= l.length /\ iv = .int .i64 k /\ Below w.heap.size w wr) (fun iv _ => l.length - (intOf iv).toNat)
 case atStart => exact ⟨0, Nat.zero_le _, rfl, Below.refl _ _⟩
 case round =>
  obtain ⟨k, hk, rfl, hbel⟩ := hrel
  by_cases hlt : k < l.length
  ·obtain ⟨ga, hao, hga, hca⟩ := HA.out k hlt
   obtain ⟨gb, hbo, hgb, hcb⟩ := HB.out k hlt
   have c1 : wr.cell? ⟨ga, k, none⟩ = some (.string (l.getD k ByteArray.empty)) := (hbel.cell (p := ⟨ga, k, none⟩) hga).trans hca
   have c2 : wr.cell? ⟨gb, k, none⟩ = some (.string (l.getD k ByteArray.empty)) := (hbel.cell (p := ⟨gb, k, none⟩) hgb).trans hcb
   generalize l.getD k ByteArray.empty = x at *
   subst hao hbo
   clear hca hcb
   have hki : (k : Int) < (l.length : Int) := by omega
   have hk0 : (0 : Int) <= (k : Int) := by omega
   go_wp2_with fail
   go_region_held3 (fun w' => w'.cell? ⟨ga, k, none⟩ = some (.string x) /\ w'.cell? ⟨gb, k, none⟩ = some (.string x)) (go_keep) (fail)
   all_goals
    go_wp2
    go_roundw
    case rel => exact ⟨k + 1, by omega, by go_num, hbel.drew⟩
    case measure => simp [intOf]; omega
  ·go_wp2
   go_ret
   exact ⟨rfl, hbel⟩
structure Ct where
 serial : Int
 issuer : ByteArray
 subject : ByteArray
 frm : Int
 upto : Int
 key : ByteArray
 ca : Bool
 pathLen : Int
 usage : Int
 pol : List Int
 per : List ByteArray
 den : List ByteArray
 sig : ByteArray
def ctV (c : Ct) (p e d : Value) : Value := .agg #[.int .i64 c.serial, .string c.issuer, .string c.subject, .int .i64 c.frm, .int .i64 c.upto, .string c.key, .bool c.ca, .int .i64 c.pathLen, .int .i64 c.usage, p, e, d, .string c.sig]
def CtAt (w : World) (v : Value) (c : Ct) : Prop := ∃ p e d, v = ctV c p e d /\ IntAt w p c.pol /\ TxtAt w e c.per /\ TxtAt w d c.den
theorem CtAt.below {w w' : World} {v : Value} {c : Ct} (h : CtAt w v c) (hb : Below w.heap.size w w') : CtAt w' v c := by
 obtain ⟨p, e, d, hv, h1, h2, h3⟩ := h
 exact ⟨p, e, d, hv, h1.below hb, h2.below hb, h3.below hb⟩
def OwnC (w : World) (base : Nat) (v : Value) (c : Ct) : Prop := ∃ p e d, v = ctV c p e d /\ OwnI w base p c.pol /\ OwnT w base e c.per /\ OwnT w base d c.den /\ (Ap p e /\ Ap e p) /\ (Ap p d /\ Ap d p) /\ (Ap e d /\ Ap d e)
theorem OwnC.at {w : World} {base : Nat} {v : Value} {c : Ct} (h : OwnC w base v c) : CtAt w v c := by
 obtain ⟨p, e, d, hv, h1, h2, h3, _⟩ := h
 exact ⟨p, e, d, hv, h1.at, h2.at, h3.at⟩
theorem OwnT.base {w : World} {b b' : Nat} {v : Value} {l : List ByteArray} (h : OwnT w b v l) (hb : b' <= b) : OwnT w b' v l := by
 obtain ⟨h1, h2⟩ := h
 refine ⟨h1, ?_⟩
 rcases h2 with h2 | ⟨g, cap, cur, hv, hbg, r⟩
 ·exact .inl h2
 ·exact .inr ⟨g, cap, cur, hv, Nat.le_trans hb hbg, r⟩
theorem OwnC.base {w : World} {b b' : Nat} {v : Value} {c : Ct} (h : OwnC w b v c) (hb : b' <= b) : OwnC w b' v c := by
 obtain ⟨p, e, d, hv, h1, h2, h3, h4⟩ := h
 exact ⟨p, e, d, hv, h1.base hb, h2.base hb, h3.base hb, h4⟩
theorem rows_apart {w w' : World} {b b' t t' s s' n n' : Nat} {u v : Value} {l l' : List Value} (hu : w.ownsRow b t s u n l) (hv : w'.ownsRow b' t' s' v n' l') (hb : w.heap.size <= b') : Ap u v /\ Ap v u := by
 rcases hv.2 with ⟨rfl, _⟩ | ⟨g', cap', cur', rfl, hbg', _⟩
 ·refine ⟨?_, .inl rfl⟩
  rcases hu.2 with ⟨rfl, _⟩ | ⟨g, cap, cur, rfl, _⟩
  ·exact .inl rfl
  ·exact .inr (by simp [Value.ownBlock])
 ·rcases hu.2 with ⟨rfl, _⟩ | ⟨g, cap, cur, rfl, _, hg, _⟩
  ·exact ⟨.inl rfl, .inr (by simp [Value.ownBlock])⟩
  ·have hlt : g < w.heap.size := by
    rcases Nat.lt_or_ge g w.heap.size with h | h
    ·exact h
    ·rw [Array.getElem?_eq_none h] at hg; cases hg
   exact ⟨.inr (by simp [Value.ownBlock]; omega), .inr (by simp [Value.ownBlock]; omega)⟩
def ArgC (B : Nat) (w : World) (v : Value) (c : Ct) : Prop := ∃ pa pc ea ec da dc, v = ctV c (.slice pa c.pol.length pc) (.slice ea c.per.length ec) (.slice da c.den.length dc) /\ ArgAt B w pa c.pol /\ ArgT B w ea c.per /\ ArgT B w da c.den
theorem ArgC.below {B : Nat} {w w' : World} {v : Value} {c : Ct} (h : ArgC B w v c) (hb : Below B w w') : ArgC B w' v c := by
 obtain ⟨pa, pc, ea, ec, da, dc, hv, h1, h2, h3⟩ := h
 exact ⟨pa, pc, ea, ec, da, dc, hv, h1.below hb, h2.below hb, h3.below hb⟩
def wtC (c : Ct) : Nat := c.issuer.size + c.subject.size + c.key.size + c.pol.length + totT c.per + totT c.den + c.sig.size
def WdC (c : Ct) : Prop := Wd [c.serial, c.frm, c.upto, c.pathLen, c.usage] /\ Wd c.pol /\ WdT [c.issuer, c.subject, c.key, c.sig] /\ WdT c.per /\ WdT c.den /\ c.pol.length <= 9223372036854775807 /\ c.per.length <= 9223372036854775807 /\ c.den.length <= 9223372036854775807
def szC (c : Ct) (left : Int) : Int := if (wtC c : Int) <= left then left - wtC c else -1
def Blk (w : World) (b : Nat) (t : TypeId) (vs : Array Value) : Prop := w.heap[b]? = some (.cells vs t (0, 0))
theorem Blk.lt {w : World} {b : Nat} {t : TypeId} {vs : Array Value} (h : Blk w b t vs) : b < w.heap.size := by
 rcases Nat.lt_or_ge b w.heap.size with h1 | h1
 ·exact h1
 ·unfold Blk at h; rw [Array.getElem?_eq_none h1] at h; cases h
theorem Blk.below {w w' : World} {b : Nat} {t : TypeId} {vs : Array Value} (h : Blk w b t vs) {B : Nat} (hb : Below B w w') (hB : b < B) : Blk w' b t vs := (hb.block b hB).trans h
theorem Blk.other {w : World} {b : Nat} {t : TypeId} {vs : Array Value} (h : Blk w b t vs) {p : Addr} (v : Value) (hp : b ≠ p.block) : Blk (w.setCell p v) b t vs := (heap_setCell_other _ _ _ _ hp).trans h
theorem Blk.set {w : World} {b : Nat} {t : TypeId} {vs : Array Value} (h : Blk w b t vs) (i : Nat) (v : Value) : Blk (w.setCell ⟨b, i, none⟩ v) b t (vs.setIfInBounds i v) := heap_setCell_same w b i _ t _ h
theorem size_alloc (w : World) (o : Obj) : (w.alloc o).heap.size = w.heap.size + 1 := Array.size_push _
theorem Blk.free {w : World} {b : Nat} {t : TypeId} {vs : Array Value} (h : Blk w b t vs) (j : Nat) : w.frozen? ⟨b, j, none⟩ = false := by
 unfold Blk at h
 simp [World.frozen?, h]
theorem Blk.cell {w : World} {b : Nat} {t : TypeId} {vs : Array Value} (h : Blk w b t vs) (j : Nat) : w.cell? ⟨b, j, none⟩ = vs[j]? := by
 unfold Blk at h
 simp [World.cell?, h]
theorem zc7 {w : World} {b : Nat} {t : TypeId} {a0 a1 a2 a3 a4 a5 a6 : Value} (h : Blk w b t #[a0, a1, a2, a3, a4, a5, a6]) : w.cell? ⟨b, 0, none⟩ = some a0 /\ w.cell? ⟨b, 1, none⟩ = some a1 /\ w.cell? ⟨b, 2, none⟩ = some a2 /\ w.cell? ⟨b, 3, none⟩ = some a3 /\ w.cell? ⟨b, 4, none⟩ = some a4 /\ w.cell? ⟨b, 5, none⟩ = some a5 /\ w.cell? ⟨b, 6, none⟩ = some a6 := ⟨h.cell 0, h.cell 1, h.cell 2, h.cell 3, h.cell 4, h.cell 5, h.cell 6⟩
theorem zc13 {w : World} {b : Nat} {t : TypeId} {a0 a1 a2 a3 a4 a5 a6 a7 a8 a9 a10 a11 a12 : Value} (h : Blk w b t #[a0, a1, a2, a3, a4, a5, a6, a7, a8, a9, a10, a11, a12]) : w.cell? ⟨b, 0, none⟩ = some a0 /\ w.cell? ⟨b, 1, none⟩ = some a1 /\ w.cell? ⟨b, 2, none⟩ = some a2 /\ w.cell? ⟨b, 3, none⟩ = some a3 /\ w.cell? ⟨b, 4, none⟩ = some a4 /\ w.cell? ⟨b, 5, none⟩ = some a5 /\ w.cell? ⟨b, 6, none⟩ = some a6 /\ w.cell? ⟨b, 7, none⟩ = some a7 /\ w.cell? ⟨b, 8, none⟩ = some a8 /\ w.cell? ⟨b, 9, none⟩ = some a9 /\ w.cell? ⟨b, 10, none⟩ = some a10 /\ w.cell? ⟨b, 11, none⟩ = some a11 /\ w.cell? ⟨b, 12, none⟩ = some a12 := ⟨h.cell 0, h.cell 1, h.cell 2, h.cell 3, h.cell 4, h.cell 5, h.cell 6, h.cell 7, h.cell 8, h.cell 9, h.cell 10, h.cell 11, h.cell 12⟩
theorem Blk.new (w : World) (t : TypeId) (vs : Array Value) : Blk (w.alloc (.cells vs t)) w.heap.size t vs := heap_alloc_new w _
theorem Blk.alloc {w : World} {b : Nat} {t : TypeId} {vs : Array Value} (h : Blk w b t vs) (o : Obj) : Blk (w.alloc o) b t vs := (heap_alloc_old w o h.lt).trans h
theorem OwnI.block {w w' : World} {b : Nat} {v : Value} {l : List Int} (h : OwnI w b v l) (hh : ∀ g, b <= g -> w'.heap[g]? = w.heap[g]?) : OwnI w' b v l := by
 obtain ⟨h1, h2⟩ := h
 refine ⟨h1, ?_⟩
 rcases h2 with h2 | ⟨g, cap, cur, hv, hbg, hg, r⟩
 ·exact .inl h2
 ·exact .inr ⟨g, cap, cur, hv, hbg, (hh g hbg).trans hg, r⟩
theorem OwnT.block {w w' : World} {b : Nat} {v : Value} {l : List ByteArray} (h : OwnT w b v l) (hh : ∀ g, b <= g -> w'.heap[g]? = w.heap[g]?) : OwnT w' b v l := by
 obtain ⟨h1, h2⟩ := h
 refine ⟨h1, ?_⟩
 rcases h2 with h2 | ⟨g, cap, cur, hv, hbg, hg, r⟩
 ·exact .inl h2
 ·exact .inr ⟨g, cap, cur, hv, hbg, (hh g hbg).trans hg, r⟩
theorem szIntS_any (a0 : Option Addr) (len cap : Nat) (left : Int) (w : World) (hm : len <= 9223372036854775807) (h0 : 0 <= left) (hl : left <= 1048576) :
  Calls Tryz.prog 41 #[.slice a0 len cap, .int .i64 left] w fun e w' => e = .returned (.int .i64 (if (len : Int) <= left then left - (len : Int) else -1)) /\ Below w.heap.size w w' := by
 have w1 : IntKind.i64.wrap (left - (len : Int)) = left - (len : Int) := by rw [IntKind.wrap_i64]; omega
 by_cases h : (len : Int) <= left
 ·have hneg : ¬ left - (len : Int) < 0 := by omega
  rw [if_pos h]
  go_enter Tryz.func41, Tryz.ntmps41
  go_wp2
  go_ret
  exact ⟨rfl, Below.refl _ _⟩
 ·have hneg : left - (len : Int) < 0 := by omega
  rw [if_neg h]
  go_enter Tryz.func41, Tryz.ntmps41
  go_wp2
  go_ret
  exact ⟨rfl, Below.refl _ _⟩
theorem toCert_any (c : Ct) (v : Value) (B : Nat) (w : World) (hl : c.pol.length <= 1048576 /\ c.per.length <= 1048576 /\ c.den.length <= 1048576) (hB : B <= w.heap.size) (ha : ArgC B w v c) :
  Calls Tryz.prog 13 #[v] w fun e w' => ∃ u, e = .returned u /\ OwnC w' w.heap.size u c /\ Below w.heap.size w w' := by
 obtain ⟨pa, pc, ea, ec, da, dc, rfl, h1, h2, h3⟩ := ha
 have HA : Hid (ArgAt B w pa c.pol /\ ArgT B w ea c.per /\ ArgT B w da c.den /\ c.pol.length <= 1048576 /\ c.per.length <= 1048576 /\ c.den.length <= 1048576) := ⟨h1, h2, h3, hl⟩
 clear h1 h2 h3 hl
 unfold ctV
 go_enter Tryz.func13, Tryz.ntmps13
 go_wp2_with fail
 obtain ⟨W3, hW3⟩ : ∃ W, W = ((w.alloc (Obj.cells #[.int .i64 c.serial, .string c.issuer, .string c.subject, .int .i64 c.frm, .int .i64 c.upto, .string c.key, .bool c.ca, .int .i64 c.pathLen, .int .i64 c.usage, .slice pa c.pol.length pc, .slice ea c.per.length ec, .slice da c.den.length dc, .string c.sig] 48)).alloc (Obj.cells #[.int .i64 0, .string ⟨#[]⟩, .string ⟨#[]⟩, .int .i64 0, .int .i64 0, .string ⟨#[]⟩, .bool false, .int .i64 0, .int .i64 0, .slice none 0 0, .slice none 0 0, .slice none 0 0, .string ⟨#[]⟩] 52)).alloc (Obj.cells #[.int .i64 c.serial, .string c.issuer, .string c.subject, .int .i64 c.frm, .int .i64 c.upto, .string c.key, .bool c.ca, .int .i64 c.pathLen, .int .i64 c.usage, .slice none 0 0, .slice none 0 0, .slice none 0 0, .string ⟨#[]⟩] 52) := ⟨_, rfl⟩
 change Calls _ _ _ (((w.alloc (Obj.cells #[.int .i64 c.serial, .string c.issuer, .string c.subject, .int .i64 c.frm, .int .i64 c.upto, .string c.key, .bool c.ca, .int .i64 c.pathLen, .int .i64 c.usage, .slice pa c.pol.length pc, .slice ea c.per.length ec, .slice da c.den.length dc, .string c.sig] 48)).alloc (Obj.cells #[.int .i64 0, .string ⟨#[]⟩, .string ⟨#[]⟩, .int .i64 0, .int .i64 0, .string ⟨#[]⟩, .bool false, .int .i64 0, .int .i64 0, .slice none 0 0, .slice none 0 0, .slice none 0 0, .string ⟨#[]⟩] 52)).alloc (Obj.cells #[.int .i64 c.serial, .string c.issuer, .string c.subject, .int .i64 c.frm, .int .i64 c.upto, .string c.key, .bool c.ca, .int .i64 c.pathLen, .int .i64 c.usage, .slice none 0 0, .slice none 0 0, .slice none 0 0, .string ⟨#[]⟩] 52)) _
 rw [<- hW3]
 have e0 : (w.alloc (Obj.cells #[.int .i64 c.serial, .string c.issuer, .string c.subject, .int .i64 c.frm, .int .i64 c.upto, .string c.key, .bool c.ca, .int .i64 c.pathLen, .int .i64 c.usage, .slice pa c.pol.length pc, .slice ea c.per.length ec, .slice da c.den.length dc, .string c.sig] 48)).heap.size = w.heap.size + 1 := Array.size_push _
 have e1 : ((w.alloc (Obj.cells #[.int .i64 c.serial, .string c.issuer, .string c.subject, .int .i64 c.frm, .int .i64 c.upto, .string c.key, .bool c.ca, .int .i64 c.pathLen, .int .i64 c.usage, .slice pa c.pol.length pc, .slice ea c.per.length ec, .slice da c.den.length dc, .string c.sig] 48)).alloc (Obj.cells #[.int .i64 0, .string ⟨#[]⟩, .string ⟨#[]⟩, .int .i64 0, .int .i64 0, .string ⟨#[]⟩, .bool false, .int .i64 0, .int .i64 0, .slice none 0 0, .slice none 0 0, .slice none 0 0, .string ⟨#[]⟩] 52)).heap.size = w.heap.size + 1 + 1 := by rw [size_alloc, e0]
 have H3 : Hid ((Blk W3 w.heap.size 48 #[.int .i64 c.serial, .string c.issuer, .string c.subject, .int .i64 c.frm, .int .i64 c.upto, .string c.key, .bool c.ca, .int .i64 c.pathLen, .int .i64 c.usage, .slice pa c.pol.length pc, .slice ea c.per.length ec, .slice da c.den.length dc, .string c.sig] /\ Blk W3 (w.heap.size + 1) 52 #[.int .i64 0, .string ⟨#[]⟩, .string ⟨#[]⟩, .int .i64 0, .int .i64 0, .string ⟨#[]⟩, .bool false, .int .i64 0, .int .i64 0, .slice none 0 0, .slice none 0 0, .slice none 0 0, .string ⟨#[]⟩] /\ Blk W3 (w.heap.size + 1 + 1) 52 #[.int .i64 c.serial, .string c.issuer, .string c.subject, .int .i64 c.frm, .int .i64 c.upto, .string c.key, .bool c.ca, .int .i64 c.pathLen, .int .i64 c.usage, .slice none 0 0, .slice none 0 0, .slice none 0 0, .string ⟨#[]⟩] /\ Below w.heap.size w W3) /\ W3.heap.size = w.heap.size + 1 + 1 + 1) := by
  rw [hW3]
  refine ⟨⟨((Blk.new w _ _).alloc _).alloc _, ?_, ?_, (((Below.refl _ _).alloc (Nat.le_refl _) _).alloc (by rw [e0]; omega) _).alloc (by rw [e1]; omega) _⟩, by rw [size_alloc, e1]⟩
  ·have h := (Blk.new (w.alloc (Obj.cells #[.int .i64 c.serial, .string c.issuer, .string c.subject, .int .i64 c.frm, .int .i64 c.upto, .string c.key, .bool c.ca, .int .i64 c.pathLen, .int .i64 c.usage, .slice pa c.pol.length pc, .slice ea c.per.length ec, .slice da c.den.length dc, .string c.sig] 48)) 52 #[.int .i64 0, .string ⟨#[]⟩, .string ⟨#[]⟩, .int .i64 0, .int .i64 0, .string ⟨#[]⟩, .bool false, .int .i64 0, .int .i64 0, .slice none 0 0, .slice none 0 0, .slice none 0 0, .string ⟨#[]⟩]).alloc (Obj.cells #[.int .i64 c.serial, .string c.issuer, .string c.subject, .int .i64 c.frm, .int .i64 c.upto, .string c.key, .bool c.ca, .int .i64 c.pathLen, .int .i64 c.usage, .slice none 0 0, .slice none 0 0, .slice none 0 0, .string ⟨#[]⟩] 52)
   rw [e0] at h
   exact h
  ·have h := Blk.new ((w.alloc (Obj.cells #[.int .i64 c.serial, .string c.issuer, .string c.subject, .int .i64 c.frm, .int .i64 c.upto, .string c.key, .bool c.ca, .int .i64 c.pathLen, .int .i64 c.usage, .slice pa c.pol.length pc, .slice ea c.per.length ec, .slice da c.den.length dc, .string c.sig] 48)).alloc (Obj.cells #[.int .i64 0, .string ⟨#[]⟩, .string ⟨#[]⟩, .int .i64 0, .int .i64 0, .string ⟨#[]⟩, .bool false, .int .i64 0, .int .i64 0, .slice none 0 0, .slice none 0 0, .slice none 0 0, .string ⟨#[]⟩] 52)) 52 #[.int .i64 c.serial, .string c.issuer, .string c.subject, .int .i64 c.frm, .int .i64 c.upto, .string c.key, .bool c.ca, .int .i64 c.pathLen, .int .i64 c.usage, .slice none 0 0, .slice none 0 0, .slice none 0 0, .string ⟨#[]⟩]
   rw [e1] at h
   exact h
 clear hW3 e0 e1
 have G0 : Hid ((Blk W3 w.heap.size 48 #[.int .i64 c.serial, .string c.issuer, .string c.subject, .int .i64 c.frm, .int .i64 c.upto, .string c.key, .bool c.ca, .int .i64 c.pathLen, .int .i64 c.usage, .slice pa c.pol.length pc, .slice ea c.per.length ec, .slice da c.den.length dc, .string c.sig] /\ Blk W3 (w.heap.size + 1) 52 #[.int .i64 0, .string ⟨#[]⟩, .string ⟨#[]⟩, .int .i64 0, .int .i64 0, .string ⟨#[]⟩, .bool false, .int .i64 0, .int .i64 0, .slice none 0 0, .slice none 0 0, .slice none 0 0, .string ⟨#[]⟩] /\ Blk W3 (w.heap.size + 1 + 1) 52 #[.int .i64 c.serial, .string c.issuer, .string c.subject, .int .i64 c.frm, .int .i64 c.upto, .string c.key, .bool c.ca, .int .i64 c.pathLen, .int .i64 c.usage, .slice none 0 0, .slice none 0 0, .slice none 0 0, .string ⟨#[]⟩] /\ Below w.heap.size w W3) /\ w.heap.size + 1 + 1 + 1 <= W3.heap.size /\ True) := ⟨H3.out.1, by have := H3.out.2; omega, trivial⟩
 clear H3
 have wd1 : w.heap.size ≠ w.heap.size + 1 + 1 := by omega
 have wd2 : w.heap.size + 1 ≠ w.heap.size + 1 + 1 := by omega
 refine (toIntS_any pa c.pol c.pol.length pc B W3 rfl HA.out.2.2.2.1 (Nat.le_trans hB G0.out.1.2.2.2.size) (HA.out.1.below (G0.out.1.2.2.2.mono hB))).mono ?_
 rintro r u0 ⟨p, rfl, op, hb⟩
 have F0 : Hid ((Blk u0 w.heap.size 48 #[.int .i64 c.serial, .string c.issuer, .string c.subject, .int .i64 c.frm, .int .i64 c.upto, .string c.key, .bool c.ca, .int .i64 c.pathLen, .int .i64 c.usage, .slice pa c.pol.length pc, .slice ea c.per.length ec, .slice da c.den.length dc, .string c.sig] /\ Blk u0 (w.heap.size + 1) 52 #[.int .i64 0, .string ⟨#[]⟩, .string ⟨#[]⟩, .int .i64 0, .int .i64 0, .string ⟨#[]⟩, .bool false, .int .i64 0, .int .i64 0, .slice none 0 0, .slice none 0 0, .slice none 0 0, .string ⟨#[]⟩] /\ Blk u0 (w.heap.size + 1 + 1) 52 #[.int .i64 c.serial, .string c.issuer, .string c.subject, .int .i64 c.frm, .int .i64 c.upto, .string c.key, .bool c.ca, .int .i64 c.pathLen, .int .i64 c.usage, .slice none 0 0, .slice none 0 0, .slice none 0 0, .string ⟨#[]⟩] /\ Below w.heap.size w u0) /\ w.heap.size + 1 + 1 + 1 <= u0.heap.size /\ OwnI u0 (w.heap.size + 1 + 1 + 1) p c.pol) := by
  have hz := G0.out.2.1
  exact ⟨⟨G0.out.1.1.below hb (by omega), G0.out.1.2.1.below hb (by omega), G0.out.1.2.2.1.below hb (by omega), G0.out.1.2.2.2.trans (hb.mono G0.out.1.2.2.2.size)⟩, Nat.le_trans hz hb.size, op.base hz⟩
 clear op hb G0
 obtain ⟨tp, htp⟩ := zE (p)
 have fr := fun j => F0.out.1.2.2.1.free j
 clear htp tp
 obtain ⟨qp, mp, hsp⟩ : ∃ ao cap, p = .slice ao c.pol.length cap := by obtain ⟨ao, cap, h, _⟩ := (F0.out.2.2).at; exact ⟨ao, cap, h⟩
 obtain ⟨lp, hlp⟩ := zE (c.pol.length)
 rw [hlp] at hsp
 have HLp : Hid (p = .slice qp lp mp) := hsp
 clear hlp
 subst hsp
 clear HLp
 have ca : u0.cell? ⟨w.heap.size, 10, none⟩ = some (.slice ea c.per.length ec) := F0.out.1.1.cell 10
 have cg : u0.cell? ⟨w.heap.size + 1 + 1, 9, none⟩ = some (.slice none 0 0) := F0.out.1.2.2.1.cell 9
 go_wp2_with fail
 obtain ⟨V0, hV⟩ : ∃ V, V = u0.setCell ⟨w.heap.size + 1 + 1, 9, none⟩ (.slice qp lp mp) := ⟨_, rfl⟩
 rw [<- hV]
 have G1 : Hid ((Blk V0 w.heap.size 48 #[.int .i64 c.serial, .string c.issuer, .string c.subject, .int .i64 c.frm, .int .i64 c.upto, .string c.key, .bool c.ca, .int .i64 c.pathLen, .int .i64 c.usage, .slice pa c.pol.length pc, .slice ea c.per.length ec, .slice da c.den.length dc, .string c.sig] /\ Blk V0 (w.heap.size + 1) 52 #[.int .i64 0, .string ⟨#[]⟩, .string ⟨#[]⟩, .int .i64 0, .int .i64 0, .string ⟨#[]⟩, .bool false, .int .i64 0, .int .i64 0, .slice none 0 0, .slice none 0 0, .slice none 0 0, .string ⟨#[]⟩] /\ Blk V0 (w.heap.size + 1 + 1) 52 #[.int .i64 c.serial, .string c.issuer, .string c.subject, .int .i64 c.frm, .int .i64 c.upto, .string c.key, .bool c.ca, .int .i64 c.pathLen, .int .i64 c.usage, .slice qp lp mp, .slice none 0 0, .slice none 0 0, .string ⟨#[]⟩] /\ Below w.heap.size w V0) /\ w.heap.size + 1 + 1 + 1 <= V0.heap.size /\ OwnI V0 (w.heap.size + 1 + 1 + 1) (.slice qp lp mp) c.pol) := by
  have hbs : Below (w.heap.size + 1 + 1) u0 V0 := by rw [hV]; exact (Below.refl _ _).setCell (p := ⟨w.heap.size + 1 + 1, 9, none⟩) (Nat.le_refl _) _
  have hot : ∀ b, w.heap.size + 1 + 1 + 1 <= b -> V0.heap[b]? = u0.heap[b]? := fun b hb => by rw [hV]; exact heap_setCell_other _ _ _ _ (by show b ≠ w.heap.size + 1 + 1; omega)
  refine ⟨⟨F0.out.1.1.below hbs (by omega), F0.out.1.2.1.below hbs (by omega), by rw [hV]; exact F0.out.1.2.2.1.set 9 _, F0.out.1.2.2.2.trans (hbs.mono (by omega))⟩, Nat.le_trans F0.out.2.1 hbs.size, ?_⟩
  exact F0.out.2.2.block hot
 clear hV F0 fr ca cg
 refine (toStringS_any ea c.per c.per.length ec B V0 rfl HA.out.2.2.2.2.1 (Nat.le_trans hB G1.out.1.2.2.2.size) (HA.out.2.1.below (G1.out.1.2.2.2.mono hB))).mono ?_
 rintro r u1 ⟨e, rfl, oe, hb⟩
 have F1 : Hid ((Blk u1 w.heap.size 48 #[.int .i64 c.serial, .string c.issuer, .string c.subject, .int .i64 c.frm, .int .i64 c.upto, .string c.key, .bool c.ca, .int .i64 c.pathLen, .int .i64 c.usage, .slice pa c.pol.length pc, .slice ea c.per.length ec, .slice da c.den.length dc, .string c.sig] /\ Blk u1 (w.heap.size + 1) 52 #[.int .i64 0, .string ⟨#[]⟩, .string ⟨#[]⟩, .int .i64 0, .int .i64 0, .string ⟨#[]⟩, .bool false, .int .i64 0, .int .i64 0, .slice none 0 0, .slice none 0 0, .slice none 0 0, .string ⟨#[]⟩] /\ Blk u1 (w.heap.size + 1 + 1) 52 #[.int .i64 c.serial, .string c.issuer, .string c.subject, .int .i64 c.frm, .int .i64 c.upto, .string c.key, .bool c.ca, .int .i64 c.pathLen, .int .i64 c.usage, .slice qp lp mp, .slice none 0 0, .slice none 0 0, .string ⟨#[]⟩] /\ Below w.heap.size w u1) /\ w.heap.size + 1 + 1 + 1 <= u1.heap.size /\ OwnI u1 (w.heap.size + 1 + 1 + 1) (.slice qp lp mp) c.pol /\ OwnT u1 (w.heap.size + 1 + 1 + 1) e c.per /\ (Ap (.slice qp lp mp) e /\ Ap e (.slice qp lp mp))) := by
  have hz := G1.out.2.1
  exact ⟨⟨G1.out.1.1.below hb (by omega), G1.out.1.2.1.below hb (by omega), G1.out.1.2.2.1.below hb (by omega), G1.out.1.2.2.2.trans (hb.mono G1.out.1.2.2.2.size)⟩, Nat.le_trans hz hb.size, G1.out.2.2.stays hb, oe.base hz, rows_apart G1.out.2.2 oe (Nat.le_refl _)⟩
 clear oe hb G1
 obtain ⟨te, hte⟩ := zE (e)
 have fr := fun j => F1.out.1.2.2.1.free j
 clear hte te
 obtain ⟨qe, me, hse⟩ : ∃ ao cap, e = .slice ao c.per.length cap := by obtain ⟨ao, cap, h, _⟩ := (F1.out.2.2.2.1).at; exact ⟨ao, cap, h⟩
 obtain ⟨le, hle⟩ := zE (c.per.length)
 rw [hle] at hse
 have HLe : Hid (e = .slice qe le me) := hse
 clear hle
 subst hse
 clear HLe
 have ca : u1.cell? ⟨w.heap.size, 11, none⟩ = some (.slice da c.den.length dc) := F1.out.1.1.cell 11
 have cg : u1.cell? ⟨w.heap.size + 1 + 1, 10, none⟩ = some (.slice none 0 0) := F1.out.1.2.2.1.cell 10
 go_wp2_with fail
 obtain ⟨V1, hV⟩ : ∃ V, V = u1.setCell ⟨w.heap.size + 1 + 1, 10, none⟩ (.slice qe le me) := ⟨_, rfl⟩
 rw [<- hV]
 have G2 : Hid ((Blk V1 w.heap.size 48 #[.int .i64 c.serial, .string c.issuer, .string c.subject, .int .i64 c.frm, .int .i64 c.upto, .string c.key, .bool c.ca, .int .i64 c.pathLen, .int .i64 c.usage, .slice pa c.pol.length pc, .slice ea c.per.length ec, .slice da c.den.length dc, .string c.sig] /\ Blk V1 (w.heap.size + 1) 52 #[.int .i64 0, .string ⟨#[]⟩, .string ⟨#[]⟩, .int .i64 0, .int .i64 0, .string ⟨#[]⟩, .bool false, .int .i64 0, .int .i64 0, .slice none 0 0, .slice none 0 0, .slice none 0 0, .string ⟨#[]⟩] /\ Blk V1 (w.heap.size + 1 + 1) 52 #[.int .i64 c.serial, .string c.issuer, .string c.subject, .int .i64 c.frm, .int .i64 c.upto, .string c.key, .bool c.ca, .int .i64 c.pathLen, .int .i64 c.usage, .slice qp lp mp, .slice qe le me, .slice none 0 0, .string ⟨#[]⟩] /\ Below w.heap.size w V1) /\ w.heap.size + 1 + 1 + 1 <= V1.heap.size /\ OwnI V1 (w.heap.size + 1 + 1 + 1) (.slice qp lp mp) c.pol /\ OwnT V1 (w.heap.size + 1 + 1 + 1) (.slice qe le me) c.per /\ (Ap (.slice qp lp mp) (.slice qe le me) /\ Ap (.slice qe le me) (.slice qp lp mp))) := by
  have hbs : Below (w.heap.size + 1 + 1) u1 V1 := by rw [hV]; exact (Below.refl _ _).setCell (p := ⟨w.heap.size + 1 + 1, 10, none⟩) (Nat.le_refl _) _
  have hot : ∀ b, w.heap.size + 1 + 1 + 1 <= b -> V1.heap[b]? = u1.heap[b]? := fun b hb => by rw [hV]; exact heap_setCell_other _ _ _ _ (by show b ≠ w.heap.size + 1 + 1; omega)
  refine ⟨⟨F1.out.1.1.below hbs (by omega), F1.out.1.2.1.below hbs (by omega), by rw [hV]; exact F1.out.1.2.2.1.set 10 _, F1.out.1.2.2.2.trans (hbs.mono (by omega))⟩, Nat.le_trans F1.out.2.1 hbs.size, ?_⟩
  exact ⟨F1.out.2.2.1.block hot, F1.out.2.2.2.1.block hot, F1.out.2.2.2.2⟩
 clear hV F1 fr ca cg
 refine (toStringS_any da c.den c.den.length dc B V1 rfl HA.out.2.2.2.2.2 (Nat.le_trans hB G2.out.1.2.2.2.size) (HA.out.2.2.1.below (G2.out.1.2.2.2.mono hB))).mono ?_
 rintro r u2 ⟨d, rfl, od, hb⟩
 have F2 : Hid ((Blk u2 w.heap.size 48 #[.int .i64 c.serial, .string c.issuer, .string c.subject, .int .i64 c.frm, .int .i64 c.upto, .string c.key, .bool c.ca, .int .i64 c.pathLen, .int .i64 c.usage, .slice pa c.pol.length pc, .slice ea c.per.length ec, .slice da c.den.length dc, .string c.sig] /\ Blk u2 (w.heap.size + 1) 52 #[.int .i64 0, .string ⟨#[]⟩, .string ⟨#[]⟩, .int .i64 0, .int .i64 0, .string ⟨#[]⟩, .bool false, .int .i64 0, .int .i64 0, .slice none 0 0, .slice none 0 0, .slice none 0 0, .string ⟨#[]⟩] /\ Blk u2 (w.heap.size + 1 + 1) 52 #[.int .i64 c.serial, .string c.issuer, .string c.subject, .int .i64 c.frm, .int .i64 c.upto, .string c.key, .bool c.ca, .int .i64 c.pathLen, .int .i64 c.usage, .slice qp lp mp, .slice qe le me, .slice none 0 0, .string ⟨#[]⟩] /\ Below w.heap.size w u2) /\ w.heap.size + 1 + 1 + 1 <= u2.heap.size /\ OwnI u2 (w.heap.size + 1 + 1 + 1) (.slice qp lp mp) c.pol /\ OwnT u2 (w.heap.size + 1 + 1 + 1) (.slice qe le me) c.per /\ OwnT u2 (w.heap.size + 1 + 1 + 1) d c.den /\ (Ap (.slice qp lp mp) (.slice qe le me) /\ Ap (.slice qe le me) (.slice qp lp mp)) /\ (Ap (.slice qp lp mp) d /\ Ap d (.slice qp lp mp)) /\ (Ap (.slice qe le me) d /\ Ap d (.slice qe le me))) := by
  have hz := G2.out.2.1
  exact ⟨⟨G2.out.1.1.below hb (by omega), G2.out.1.2.1.below hb (by omega), G2.out.1.2.2.1.below hb (by omega), G2.out.1.2.2.2.trans (hb.mono G2.out.1.2.2.2.size)⟩, Nat.le_trans hz hb.size, G2.out.2.2.1.stays hb, G2.out.2.2.2.1.stays hb, od.base hz, G2.out.2.2.2.2, rows_apart G2.out.2.2.1 od (Nat.le_refl _), rows_apart G2.out.2.2.2.1 od (Nat.le_refl _)⟩
 clear od hb G2
 obtain ⟨td, htd⟩ := zE (d)
 have fr := fun j => F2.out.1.2.2.1.free j
 clear htd td
 obtain ⟨qd, md, hsd⟩ : ∃ ao cap, d = .slice ao c.den.length cap := by obtain ⟨ao, cap, h, _⟩ := (F2.out.2.2.2.2.1).at; exact ⟨ao, cap, h⟩
 obtain ⟨ld, hld⟩ := zE (c.den.length)
 rw [hld] at hsd
 have HLd : Hid (d = .slice qd ld md) := hsd
 clear hld
 subst hsd
 clear HLd
 have f1 := fun j => F2.out.1.2.1.free j
 have ca : u2.cell? ⟨w.heap.size, 12, none⟩ = some (.string c.sig) := F2.out.1.1.cell 12
 have c10 : u2.cell? ⟨w.heap.size + 1, 0, none⟩ = some (.int .i64 0) := F2.out.1.2.1.cell 0
 have c20 : u2.cell? ⟨w.heap.size + 1 + 1, 0, none⟩ = some (.int .i64 c.serial) := F2.out.1.2.2.1.cell 0
 have c11 : u2.cell? ⟨w.heap.size + 1, 1, none⟩ = some (.string ⟨#[]⟩) := F2.out.1.2.1.cell 1
 have c21 : u2.cell? ⟨w.heap.size + 1 + 1, 1, none⟩ = some (.string c.issuer) := F2.out.1.2.2.1.cell 1
 have c12 : u2.cell? ⟨w.heap.size + 1, 2, none⟩ = some (.string ⟨#[]⟩) := F2.out.1.2.1.cell 2
 have c22 : u2.cell? ⟨w.heap.size + 1 + 1, 2, none⟩ = some (.string c.subject) := F2.out.1.2.2.1.cell 2
 have c13 : u2.cell? ⟨w.heap.size + 1, 3, none⟩ = some (.int .i64 0) := F2.out.1.2.1.cell 3
 have c23 : u2.cell? ⟨w.heap.size + 1 + 1, 3, none⟩ = some (.int .i64 c.frm) := F2.out.1.2.2.1.cell 3
 have c14 : u2.cell? ⟨w.heap.size + 1, 4, none⟩ = some (.int .i64 0) := F2.out.1.2.1.cell 4
 have c24 : u2.cell? ⟨w.heap.size + 1 + 1, 4, none⟩ = some (.int .i64 c.upto) := F2.out.1.2.2.1.cell 4
 have c15 : u2.cell? ⟨w.heap.size + 1, 5, none⟩ = some (.string ⟨#[]⟩) := F2.out.1.2.1.cell 5
 have c25 : u2.cell? ⟨w.heap.size + 1 + 1, 5, none⟩ = some (.string c.key) := F2.out.1.2.2.1.cell 5
 have c16 : u2.cell? ⟨w.heap.size + 1, 6, none⟩ = some (.bool false) := F2.out.1.2.1.cell 6
 have c26 : u2.cell? ⟨w.heap.size + 1 + 1, 6, none⟩ = some (.bool c.ca) := F2.out.1.2.2.1.cell 6
 have c17 : u2.cell? ⟨w.heap.size + 1, 7, none⟩ = some (.int .i64 0) := F2.out.1.2.1.cell 7
 have c27 : u2.cell? ⟨w.heap.size + 1 + 1, 7, none⟩ = some (.int .i64 c.pathLen) := F2.out.1.2.2.1.cell 7
 have c18 : u2.cell? ⟨w.heap.size + 1, 8, none⟩ = some (.int .i64 0) := F2.out.1.2.1.cell 8
 have c28 : u2.cell? ⟨w.heap.size + 1 + 1, 8, none⟩ = some (.int .i64 c.usage) := F2.out.1.2.2.1.cell 8
 have c19 : u2.cell? ⟨w.heap.size + 1, 9, none⟩ = some (.slice none 0 0) := F2.out.1.2.1.cell 9
 have c29 : u2.cell? ⟨w.heap.size + 1 + 1, 9, none⟩ = some (.slice qp lp mp) := F2.out.1.2.2.1.cell 9
 have c110 : u2.cell? ⟨w.heap.size + 1, 10, none⟩ = some (.slice none 0 0) := F2.out.1.2.1.cell 10
 have c210 : u2.cell? ⟨w.heap.size + 1 + 1, 10, none⟩ = some (.slice qe le me) := F2.out.1.2.2.1.cell 10
 have c111 : u2.cell? ⟨w.heap.size + 1, 11, none⟩ = some (.slice none 0 0) := F2.out.1.2.1.cell 11
 have c211 : u2.cell? ⟨w.heap.size + 1 + 1, 11, none⟩ = some (.slice none 0 0) := F2.out.1.2.2.1.cell 11
 have c112 : u2.cell? ⟨w.heap.size + 1, 12, none⟩ = some (.string ⟨#[]⟩) := F2.out.1.2.1.cell 12
 have c212 : u2.cell? ⟨w.heap.size + 1 + 1, 12, none⟩ = some (.string ⟨#[]⟩) := F2.out.1.2.2.1.cell 12
 go_wp2_with fail
 refine bodyPost_ret (v := ctV c (.slice qp lp mp) (.slice qe le me) (.slice qd ld md)) (by simp [results, Tryz.results13, go_sem, ctV, c10, c11, c12, c13, c14, c15, c16, c17, c18, c19, c110, c111, c112]) rfl ⟨_, rfl, ⟨_, _, _, rfl, (F2.out.2.2.1.block ?far).base (by omega), (F2.out.2.2.2.1.block ?far).base (by omega), (F2.out.2.2.2.2.1.block ?far).base (by omega), F2.out.2.2.2.2.2.1, F2.out.2.2.2.2.2.2.1, F2.out.2.2.2.2.2.2.2⟩, ?bel⟩
 case far =>
  intro b hb
  iterate 15 rw [heap_setCell_other _ _ _ _ (by first | (show b ≠ w.heap.size + 1; omega) | (show b ≠ w.heap.size + 1 + 1; omega))]
 case bel =>
  iterate 15 refine Below.setCell ?_ (by first | (show w.heap.size <= w.heap.size + 1; omega) | (show w.heap.size <= w.heap.size + 1 + 1; omega)) _
  exact F2.out.1.2.2.2
end Go.Proofs.YtabfamhaihnccaaGreat
