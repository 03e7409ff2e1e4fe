/-
  Texts of the proof.
-/
import Derived.SliceStrings
import Derived.Deep.RegionHeld3
import Derived.Laws.OwnMore
import Derived.Test.YtagmnlmfoanelaaGreatSK2
set_option maxRecDepth 100000
set_option maxHeartbeats 25600000
namespace Go.Proofs.YtagmnlmfoanelaaGreat
open Go.RowKit
set_option linter.unusedVariables false
set_option linter.unusedSimpArgs false
def cellsT (l : List ByteArray) : List Value := l.map Value.string
theorem cellsT_len (l : List ByteArray) : (cellsT l).length = l.length := by simp [cellsT]
theorem cellsT_set (l : List ByteArray) (k : Nat) (x : ByteArray) : (cellsT l).set k (.string x) = cellsT (l.set k x) := by simp [cellsT]
theorem cellsT_append (a b : List ByteArray) : cellsT (a ++ b) = cellsT a ++ cellsT b := by simp [cellsT]
theorem cellsT_getD {l : List ByteArray} {j : Nat} (h : j < l.length) : (cellsT l)[j]? = some (.string (l.getD j ByteArray.empty)) := by simp [cellsT, List.getD, h]
def TxtAt (w : World) (v : Value) (l : List ByteArray) : Prop := ∃ ao cap, v = .slice ao l.length cap /\ ∀ j, j < l.length -> ∃ g, ao = some ⟨g, 0, none⟩ /\ g < w.heap.size /\ w.cell? ⟨g, j, none⟩ = some (.string (l.getD j ByteArray.empty))
theorem TxtAt.below {w w' : World} {v : Value} {l : List ByteArray} (h : TxtAt w v l) (hb : Below w.heap.size w w') : TxtAt w' v l := by
 obtain ⟨ao, cap, hv, h⟩ := h
 refine ⟨ao, cap, hv, fun j hj => ?_⟩
 obtain ⟨g, hg, hlt, hc⟩ := h j hj
 exact ⟨g, hg, Nat.lt_of_lt_of_le hlt hb.size, by rw [hb.cell (p := ⟨g, j, none⟩) hlt]; exact hc⟩
def OwnT (w : World) (base : Nat) (v : Value) (l : List ByteArray) : Prop := w.ownsRow base 9 1 v l.length (cellsT l)
theorem OwnT.at {w : World} {base : Nat} {v : Value} {l : List ByteArray} (h : OwnT w base v l) : TxtAt w v l := by
 have hc := fun g (hg : v.ownBlock = some g) => (World.ownsRow.lt h g hg).2
 have h' := h
 obtain ⟨h1, h2⟩ := h
 rcases h2 with ⟨rfl, h0⟩ | ⟨g, cap, cur, rfl, hbg, hg, r⟩
 ·exact ⟨none, 0, by rw [h0], fun j hj => by omega⟩
 ·refine ⟨some ⟨g, 0, none⟩, cap, rfl, fun j hj => ⟨g, rfl, hc g rfl, ?_⟩⟩
  rw [World.ownsRow.cellAt h' j (by omega), cellsT_getD hj]
theorem OwnT.stays {w w' : World} {base : Nat} {v : Value} {l : List ByteArray} (h : OwnT w base v l) (hb : Below w.heap.size w w') : OwnT w' base v l := by
 obtain ⟨h1, h2⟩ := h
 refine ⟨h1, ?_⟩
 rcases h2 with h2 | ⟨g, cap, cur, hv, hbg, hg, r⟩
 ·exact .inl h2
 ·have hlt : g < w.heap.size := by
   rcases Nat.lt_or_ge g w.heap.size with h | h
   ·exact h
   ·rw [Array.getElem?_eq_none h] at hg; cases hg
  exact .inr ⟨g, cap, cur, hv, hbg, by rw [hb.block g hlt]; exact hg, r⟩
theorem OwnT.cell {w : World} {base g cap : Nat} {l : List ByteArray} (h : OwnT w base (.slice (some ⟨g, 0, none⟩) l.length cap) l) {j : Nat} (hj : j < l.length) : w.cell? ⟨g, j, none⟩ = some (.string (l.getD j ByteArray.empty)) := by
 rw [World.ownsRow.cellAt h j (by omega), cellsT_getD hj]
theorem OwnT.frozen {w : World} {base g cap : Nat} {l : List ByteArray} (h : OwnT w base (.slice (some ⟨g, 0, none⟩) l.length cap) l) (j : Nat) : w.frozen? ⟨g, j, none⟩ = false := World.ownsRow.frozenAt h j
theorem OwnT.set {w : World} {base g cap : Nat} {l : List ByteArray} (h : OwnT w base (.slice (some ⟨g, 0, none⟩) l.length cap) l) (j : Nat) (x : ByteArray) :
  OwnT (w.setCell ⟨g, j, none⟩ (.string x)) base (.slice (some ⟨g, 0, none⟩) (l.set j x).length cap) (l.set j x) := by
 have := (World.ownsRow.stored h j (.string x)).1
 rw [cellsT_set] at this
 unfold OwnT
 rw [List.length_set]
 exact this
def ArgT (B : Nat) (w : World) (a0 : Option Addr) (l : List ByteArray) : Prop := ∀ j, j < l.length -> ∃ b off, a0 = some ⟨b, off, none⟩ /\ b < B /\ w.cell? ⟨b, off + j, none⟩ = some (.string (l.getD j ByteArray.empty))
theorem ArgT.below {B : Nat} {w w' : World} {a0 : Option Addr} {l : List ByteArray} (h : ArgT B w a0 l) (hb : Below B w w') : ArgT B w' a0 l := fun j hj => by
 obtain ⟨b, off, e, hbB, hc⟩ := h j hj
 exact ⟨b, off, e, hbB, (hb.cell (p := ⟨b, off + j, none⟩) hbB).trans hc⟩
def WdT (l : List ByteArray) : Prop := ∀ s ∈ l, s.size <= 9223372036854775807
theorem argT_of {W : World} {x : Addr} {len cap : Nat} {zs : List ByteArray} (hl : len <= cap) (hz : zs.length = cap) (hcell : ∀ i, i < zs.length -> W.cell? (x.add i) = some (.string (zs.getD i ByteArray.empty))) (hsz : ∀ s ∈ zs, s.size <= maxLen) :
  (zs.take len).length = len /\ WdT (zs.take len) /\ ArgT W.heap.size W (some x) (zs.take len) := by
 have hlen : (zs.take len).length = len := by simp; omega
 refine ⟨hlen, fun n hn => hsz n (List.mem_of_mem_take hn), fun j hj => ?_⟩
 rw [hlen] at hj
 have hc := hcell j (by omega)
 have hc0 := hcell 0 (by omega)
 obtain ⟨b, off, spot⟩ := x
 have hspot : spot = none := by simpa [Addr.add] using World.cell?_spot hc0
 subst hspot
 rw [Addr.add_lit] at hc
 refine ⟨b, off, rfl, lt_of_cell hc, ?_⟩
 rw [hc]
 simp [List.getD, hj]
theorem info9 : (Tryz.prog.info? 9).map (fun i => (i.zero, i.size, i.bytes)) = some (some (.string ByteArray.empty), 1, 16) := by kernel_rfl
def fillT (f : Nat -> ByteArray) (k n : Nat) : List ByteArray := (List.range n).map fun j => if j < k then f j else ByteArray.empty
theorem fillT_len (f : Nat -> ByteArray) (k n : Nat) : (fillT f k n).length = n := by simp [fillT]
theorem fillT_zero (f : Nat -> ByteArray) (n : Nat) : fillT f 0 n = List.replicate n ByteArray.empty := by
 apply List.ext_getElem (by simp [fillT])
 intro j h1 h2
 simp [fillT]
theorem fillT_set (f : Nat -> ByteArray) (k n : Nat) (hk : k < n) : (fillT f k n).set k (f k) = fillT f (k + 1) n := by
 apply List.ext_getElem (by simp [fillT])
 intro j h1 h2
 simp only [fillT, List.getElem_set, List.getElem_map, List.getElem_range]
 by_cases e : k = j
 ·subst e; simp
 ·rw [if_neg e]
  by_cases h : j < k
  ·rw [if_pos h, if_pos (by omega)]
  ·rw [if_neg h, if_neg (by omega)]
theorem fillT_all (l : List ByteArray) : fillT (fun j => l.getD j ByteArray.empty) l.length l.length = l := by
 apply List.ext_getElem (by simp [fillT])
 intro j h1 h2
 simp [fillT, List.getD, h2]
theorem made_texts (n : Nat) : (madeCells #[Value.string ByteArray.empty] n).toList = cellsT (List.replicate n ByteArray.empty) := by
 apply List.ext_getElem (by simp [madeCells, cellsT])
 intro j h1 h2
 simp [madeCells, cellsT, Nat.mod_one]
theorem OwnT.of_made {w : World} {base g n : Nat} (h : w.ownsRow base 9 1 (.slice (some ⟨g, 0, none⟩) n n) n (madeCells #[Value.string ByteArray.empty] n).toList) :
  OwnT w base (.slice (some ⟨g, 0, none⟩) (List.replicate n ByteArray.empty).length n) (List.replicate n ByteArray.empty) := by
 rw [made_texts] at h
 unfold OwnT
 rw [List.length_replicate]
 exact h
theorem toStringS_any (a0 : Option Addr) (l : List ByteArray) (len cap B : Nat) (w : World) (hlen : l.length = len) (hl : len <= 1048576) (hB : B <= w.heap.size) (ha : ArgT B w a0 l) :
  Calls Tryz.prog 27 #[.slice a0 len cap] w fun e w' => ∃ v, e = .returned v /\ OwnT w' w.heap.size v l /\ Below w.heap.size w w' := by
 obtain ⟨i0, hi, hz0, hz1, hz2⟩ := info_parts info9
 have HA : Hid (ArgT B w a0 l /\ l.length = len) := ⟨ha, hlen⟩
 clear ha hlen
 obtain ⟨f, hf⟩ : ∃ f : Nat -> ByteArray, (fun j => l.getD j ByteArray.empty) = f := ⟨_, rfl⟩
 have HF : Hid ((fun j => l.getD j ByteArray.empty) = f) := hf
 clear hf
 go_enter Tryz.func27, Tryz.ntmps27
 go_wp2_with (at_make; refine wpList_make_full _ rfl _ _ 27 rfl w.heap.size 9 i0 (.string ByteArray.empty) 1 Tryz.underlying27 hi hz0 hz1 .i64 .i64 _ _ len rfl rfl ?m0 ?m1 ?m2 ?m3 ?m4 ?_)
 case m0 => simp
 case m1 => simp
 case m2 => rw [hz2]; omega
 case m3 => unfold maxLen; omega
 case m4 => exact Nat.le_refl _
 intro w1 hown hgrow
 have HO : Hid (OwnT w1 w.heap.size (.slice (some ⟨w.heap.size, 0, none⟩) (fillT f 0 len).length len) (fillT f 0 len) /\ Below w.heap.size w w1) := by
  refine ⟨?_, (Below.refl _ _).grown hgrow (Nat.le_refl _) (fun j hj => by cases hj)⟩
  rw [fillT_zero]
  exact OwnT.of_made hown
 clear hown hgrow
 go_wp2_with fail
 go_loopw [4] (fun iv wr => ∃ k : Nat, k <= len /\ iv = .int .i64 k /\ Hid (OwnT wr w.heap.size (.slice (some ⟨w.heap.size, 0, none⟩) (fillT f k len).length len) (fillT f k len) /\ Below w.heap.size w wr)) (fun iv _ => len - (intOf iv).toNat)
 case atStart => exact ⟨0, Nat.zero_le _, rfl, HO.out⟩
 case round =>
  obtain ⟨k, hk, rfl, H⟩ := hrel
  clear HO
  have hfl := fillT_len f k len
  by_cases hkn : k < len
  ·have hu := H.out.1.cell (j := k) (by omega)
   have hfz := H.out.1.frozen k
   obtain ⟨b, off, hao, hbB, hcs⟩ := HA.out.1 k (by rw [HA.out.2]; exact hkn)
   have hua : wr.cell? ⟨b, off + k, none⟩ = some (.string (l.getD k ByteArray.empty)) := by
    rw [H.out.2.cell (p := ⟨b, off + k, none⟩) (by show b < w.heap.size; omega), hcs]
   subst hao
   have hfk : l.getD k ByteArray.empty = f k := congrFun HF.out k
   rw [hfk] at hua
   have HN : Hid (OwnT (wr.setCell ⟨w.heap.size, k, none⟩ (.string (f k))) w.heap.size (.slice (some ⟨w.heap.size, 0, none⟩) (fillT f (k + 1) len).length len) (fillT f (k + 1) len) /\ Below w.heap.size w (wr.setCell ⟨w.heap.size, k, none⟩ (.string (f k)))) :=
    ⟨by have := H.out.1.set k (f k); rwa [fillT_set f k _ hkn] at this, Below.setCell (p := ⟨w.heap.size, k, none⟩) H.out.2 (Nat.le_refl _) _⟩
   clear hfk H hfl hcs hbB
   generalize f k = x at *
   generalize (fillT f k len).getD k ByteArray.empty = z at *
   have hki : (k : Int) < (len : Int) := by omega
   have hk0 : (0 : Int) <= (k : Int) := by omega
   go_wp2_with fail
   go_roundw
   case rel => exact ⟨k + 1, by omega, by go_num, HN.out⟩
   case measure => simp [intOf]; omega
  ·have hkl : k = len := by omega
   subst hkl
   have HE : Hid (fillT f k k = l) := by
    rw [<- HF.out, <- HA.out.2]
    exact fillT_all l
   go_wp2
   go_ret
   refine ⟨_, rfl, ?_, H.out.2⟩
   have h := H.out.1
   rw [HE.out, HA.out.2] at h
   exact h
def totT : List ByteArray -> Nat
 | [] => 0
 | s :: r => s.size + 1 + totT r
theorem tot_len : ∀ l : List ByteArray, l.length <= totT l
 | [] => Nat.le_refl _
 | s :: r => by have := tot_len r; simp only [totT, List.length_cons]; omega
theorem tot_mem : ∀ (l : List ByteArray) (s : ByteArray), s ∈ l -> s.size <= totT l
 | [], s, h => by cases h
 | x :: r, s, h => by
  simp only [totT]
  rcases List.mem_cons.1 h with rfl | h
  ·omega
  ·have := tot_mem r s h; omega
theorem tot_drop (l : List ByteArray) (k : Nat) (h : k < l.length) : totT (l.drop k) = (l.getD k ByteArray.empty).size + 1 + totT (l.drop (k + 1)) := by
 rw [List.drop_eq_getElem_cons h]
 simp [totT, List.getD, h]
def szT (l : List ByteArray) (left : Int) : Int := if (totT l : Int) <= left then left - totT l else -1
theorem szStringS_any (a0 : Option Addr) (l : List ByteArray) (len cap B : Nat) (left : Int) (w : World) (hlen : l.length = len) (hm : len <= 9223372036854775807) (hwd : WdT l) (h0 : 0 <= left) (hl : left <= 1048576) (hB : B <= w.heap.size) (ha : ArgT B w a0 l) :
  Calls Tryz.prog 18 #[.slice a0 len cap, .int .i64 left] w fun e w' => e = .returned (.int .i64 (szT l left)) /\ Below w.heap.size w w' := by
 have HA : Hid (ArgT B w a0 l /\ l.length = len /\ WdT l) := ⟨ha, hlen, hwd⟩
 have hge := tot_len l
 by_cases hbig : left < (len : Int)
 ·have HR : Hid (szT l left = -1) := by show szT l left = _; unfold szT; rw [if_neg (by omega)]
  have w1 : IntKind.i64.wrap (left - (len : Int)) = left - (len : Int) := by rw [IntKind.wrap_i64]; omega
  have hneg : left - (len : Int) < 0 := by omega
  clear ha hlen hwd hge
  go_enter Tryz.func18, Tryz.ntmps18
  go_wp2
  go_ret
  exact ⟨by rw [HR.out]; rfl, Below.refl _ _⟩
 have w1 : IntKind.i64.wrap (left - (len : Int)) = left - (len : Int) := by rw [IntKind.wrap_i64]; omega
 have hneg : ¬ left - (len : Int) < 0 := by omega
 clear ha hlen hwd hge
 go_enter Tryz.func18, Tryz.ntmps18
 go_wp2
 go_loopw [1, 5] (fun lv iv wr => ∃ (k : Nat) (r : Int), k <= len /\ lv = .int .i64 r /\ iv = .int .i64 k /\ 0 <= r /\ r <= 1048576 /\ Hid (left - (totT l : Int) = r - ((totT (l.drop k) : Int) - ((len : Int) - (k : Int)))) /\ Below w.heap.size w wr) (fun _ iv _ => len - (intOf iv).toNat)
 case atStart => exact ⟨0, left - (len : Int), Nat.zero_le _, rfl, rfl, by omega, by omega, by show _ = _; simp; omega, Below.refl _ _⟩
 case round =>
  obtain ⟨k, r, hk, rfl, rfl, hr0, hr1, HR, hbel⟩ := hrel
  have hsz := hbel.size
  by_cases hkn : k < len
  ·obtain ⟨b, off, hao, hbB, hcs⟩ := HA.out.1 k (by rw [HA.out.2.1]; exact hkn)
   have hua : wr.cell? ⟨b, off + k, none⟩ = some (.string (l.getD k ByteArray.empty)) := by
    rw [hbel.cell (p := ⟨b, off + k, none⟩) (by show b < w.heap.size; omega), hcs]
   have htd := tot_drop l k (by rw [HA.out.2.1]; exact hkn)
   have hge := tot_len (l.drop (k + 1))
   rw [List.length_drop, HA.out.2.1] at hge
   have hsx : (l.getD k ByteArray.empty).size <= 9223372036854775807 := HA.out.2.2 _ (by rw [List.getD_eq_getElem?_getD, List.getElem?_eq_getElem (by rw [HA.out.2.1]; exact hkn)]; exact List.getElem_mem _)
   have hR := HR.out
   subst hao
   generalize l.getD k ByteArray.empty = x at *
   have wx : IntKind.i64.wrap (r - (x.size : Int)) = r - (x.size : Int) := by rw [IntKind.wrap_i64]; omega
   have hki : (k : Int) < (len : Int) := by omega
   have hk0 : (0 : Int) <= (k : Int) := by omega
   by_cases hlow : r < (x.size : Int)
   ·have HF : Hid (szT l left = -1) := by show szT l left = _; unfold szT; rw [if_neg (by omega)]
    have hlowi : r - (x.size : Int) < 0 := by omega
    clear hcs htd hge hR HR
    go_wp2
    go_ret
    exact ⟨by rw [HF.out]; rfl, hbel⟩
   ·have hlowi : ¬ r - (x.size : Int) < 0 := by omega
    have HN : Hid (left - (totT l : Int) = (r - (x.size : Int)) - ((totT (l.drop (k + 1)) : Int) - ((len : Int) - ((k + 1 : Nat) : Int)))) := by show _ = _; omega
    clear hcs htd hge hR HR
    go_wp2
    go_roundw
    case rel => exact ⟨k + 1, r - (x.size : Int), by omega, by go_num, by go_num, by omega, by omega, HN, hbel⟩
    case measure => simp [intOf]; omega
  ·have hkl : k = len := by omega
   subst hkl
   have HF : Hid (szT l left = r) := by
    have hR := HR.out
    rw [List.drop_eq_nil_of_le (by rw [HA.out.2.1]; exact Nat.le_refl _)] at hR
    simp only [totT] at hR
    show szT l left = _
    unfold szT
    rw [if_pos (by omega)]
    omega
   clear HR
   go_wp2
   go_ret
   exact ⟨by rw [HF.out]; rfl, hbel⟩
theorem eqT_same (a b : Value) (l : List ByteArray) (w : World) (hl : l.length <= 1000000000) (ha : TxtAt w a l) (hb : TxtAt w b l) : Calls Tryz.prog 33 #[a, b] w fun e w' => e = .returned (.bool true) /\ Below w.heap.size w w' := by
 obtain ⟨ao, ca, rfl, hca⟩ := ha
 obtain ⟨bo, cb, rfl, hcb⟩ := hb
 have HA : Hid (∀ j, j < l.length -> ∃ g, ao = some ⟨g, 0, none⟩ /\ g < w.heap.size /\ w.cell? ⟨g, j, none⟩ = some (.string (l.getD j ByteArray.empty))) := hca
 have HB : Hid (∀ j, j < l.length -> ∃ g, bo = some ⟨g, 0, none⟩ /\ g < w.heap.size /\ w.cell? ⟨g, j, none⟩ = some (.string (l.getD j ByteArray.empty))) := hcb
 clear hca hcb
 go_enter Tryz.func33, Tryz.ntmps33
 go_wp2
 go_loopw [5] (fun iv wr => ∃ k : Nat, k <= l.length /\ iv = .int .i64 k /\ Below w.heap.size w wr) (fun iv _ => l.length - (intOf iv).toNat)
 case atStart => exact ⟨0, Nat.zero_le _, rfl, Below.refl _ _⟩
 case round =>
  obtain ⟨k, hk, rfl, hbel⟩ := hrel
  by_cases hlt : k < l.length
  ·obtain ⟨ga, hao, hga, hca⟩ := HA.out k hlt
   obtain ⟨gb, hbo, hgb, hcb⟩ := HB.out k hlt
   have c1 : wr.cell? ⟨ga, k, none⟩ = some (.string (l.getD k ByteArray.empty)) := (hbel.cell (p := ⟨ga, k, none⟩) hga).trans hca
   have c2 : wr.cell? ⟨gb, k, none⟩ = some (.string (l.getD k ByteArray.empty)) := (hbel.cell (p := ⟨gb, k, none⟩) hgb).trans hcb
   generalize l.getD k ByteArray.empty = x at *
   subst hao hbo
   clear hca hcb
   have hki : (k : Int) < (l.length : Int) := by omega
   have hk0 : (0 : Int) <= (k : Int) := by omega
   go_wp2_with fail
   go_region_held3 (fun w' => w'.cell? ⟨ga, k, none⟩ = some (.string x) /\ w'.cell? ⟨gb, k, none⟩ = some (.string x)) (go_keep) (fail)
   all_goals
    go_wp2
    go_roundw
    case rel => exact ⟨k + 1, by omega, by go_num, hbel.drew⟩
    case measure => simp [intOf]; omega
  ·go_wp2
   go_ret
   exact ⟨rfl, hbel⟩
end Go.Proofs.YtagmnlmfoanelaaGreat
namespace Go.Proofs.YtagmnlmfoanelaaGreat
open Go.RowKit
set_option linter.unusedVariables false
theorem OwnT.base {w : World} {b b' : Nat} {v : Value} {l : List ByteArray} (h : OwnT w b v l) (hb : b' <= b) : OwnT w b' v l := by
 obtain ⟨h1, h2⟩ := h
 refine ⟨h1, ?_⟩
 rcases h2 with h2 | ⟨g, cap, cur, hv, hbg, r⟩
 ·exact .inl h2
 ·exact .inr ⟨g, cap, cur, hv, Nat.le_trans hb hbg, r⟩
theorem rows_apart {w w' : World} {b b' t t' s s' n n' : Nat} {u v : Value} {l l' : List Value} (hu : w.ownsRow b t s u n l) (hv : w'.ownsRow b' t' s' v n' l') (hb : w.heap.size <= b') : Ap u v /\ Ap v u := by
 rcases hv.2 with ⟨rfl, _⟩ | ⟨g', cap', cur', rfl, hbg', _⟩
 ·refine ⟨?_, .inl rfl⟩
  rcases hu.2 with ⟨rfl, _⟩ | ⟨g, cap, cur, rfl, _⟩
  ·exact .inl rfl
  ·exact .inr (by simp [Value.ownBlock])
 ·rcases hu.2 with ⟨rfl, _⟩ | ⟨g, cap, cur, rfl, _, hg, _⟩
  ·exact ⟨.inl rfl, .inr (by simp [Value.ownBlock])⟩
  ·have hlt : g < w.heap.size := by
    rcases Nat.lt_or_ge g w.heap.size with h | h
    ·exact h
    ·rw [Array.getElem?_eq_none h] at hg; cases hg
   exact ⟨.inr (by simp [Value.ownBlock]; omega), .inr (by simp [Value.ownBlock]; omega)⟩
def Blk (w : World) (b : Nat) (t : TypeId) (vs : Array Value) : Prop := w.heap[b]? = some (.cells vs t (0, 0))
theorem Blk.lt {w : World} {b : Nat} {t : TypeId} {vs : Array Value} (h : Blk w b t vs) : b < w.heap.size := by
 rcases Nat.lt_or_ge b w.heap.size with h1 | h1
 ·exact h1
 ·unfold Blk at h; rw [Array.getElem?_eq_none h1] at h; cases h
theorem Blk.below {w w' : World} {b : Nat} {t : TypeId} {vs : Array Value} (h : Blk w b t vs) {B : Nat} (hb : Below B w w') (hB : b < B) : Blk w' b t vs := (hb.block b hB).trans h
theorem Blk.other {w : World} {b : Nat} {t : TypeId} {vs : Array Value} (h : Blk w b t vs) {p : Addr} (v : Value) (hp : b ≠ p.block) : Blk (w.setCell p v) b t vs := (heap_setCell_other _ _ _ _ hp).trans h
theorem Blk.set {w : World} {b : Nat} {t : TypeId} {vs : Array Value} (h : Blk w b t vs) (i : Nat) (v : Value) : Blk (w.setCell ⟨b, i, none⟩ v) b t (vs.setIfInBounds i v) := heap_setCell_same w b i _ t _ h
theorem size_alloc (w : World) (o : Obj) : (w.alloc o).heap.size = w.heap.size + 1 := Array.size_push _
theorem Blk.free {w : World} {b : Nat} {t : TypeId} {vs : Array Value} (h : Blk w b t vs) (j : Nat) : w.frozen? ⟨b, j, none⟩ = false := by
 unfold Blk at h
 simp [World.frozen?, h]
theorem Blk.cell {w : World} {b : Nat} {t : TypeId} {vs : Array Value} (h : Blk w b t vs) (j : Nat) : w.cell? ⟨b, j, none⟩ = vs[j]? := by
 unfold Blk at h
 simp [World.cell?, h]
theorem zc7 {w : World} {b : Nat} {t : TypeId} {a0 a1 a2 a3 a4 a5 a6 : Value} (h : Blk w b t #[a0, a1, a2, a3, a4, a5, a6]) : w.cell? ⟨b, 0, none⟩ = some a0 /\ w.cell? ⟨b, 1, none⟩ = some a1 /\ w.cell? ⟨b, 2, none⟩ = some a2 /\ w.cell? ⟨b, 3, none⟩ = some a3 /\ w.cell? ⟨b, 4, none⟩ = some a4 /\ w.cell? ⟨b, 5, none⟩ = some a5 /\ w.cell? ⟨b, 6, none⟩ = some a6 := ⟨h.cell 0, h.cell 1, h.cell 2, h.cell 3, h.cell 4, h.cell 5, h.cell 6⟩
theorem zc13 {w : World} {b : Nat} {t : TypeId} {a0 a1 a2 a3 a4 a5 a6 a7 a8 a9 a10 a11 a12 : Value} (h : Blk w b t #[a0, a1, a2, a3, a4, a5, a6, a7, a8, a9, a10, a11, a12]) : w.cell? ⟨b, 0, none⟩ = some a0 /\ w.cell? ⟨b, 1, none⟩ = some a1 /\ w.cell? ⟨b, 2, none⟩ = some a2 /\ w.cell? ⟨b, 3, none⟩ = some a3 /\ w.cell? ⟨b, 4, none⟩ = some a4 /\ w.cell? ⟨b, 5, none⟩ = some a5 /\ w.cell? ⟨b, 6, none⟩ = some a6 /\ w.cell? ⟨b, 7, none⟩ = some a7 /\ w.cell? ⟨b, 8, none⟩ = some a8 /\ w.cell? ⟨b, 9, none⟩ = some a9 /\ w.cell? ⟨b, 10, none⟩ = some a10 /\ w.cell? ⟨b, 11, none⟩ = some a11 /\ w.cell? ⟨b, 12, none⟩ = some a12 := ⟨h.cell 0, h.cell 1, h.cell 2, h.cell 3, h.cell 4, h.cell 5, h.cell 6, h.cell 7, h.cell 8, h.cell 9, h.cell 10, h.cell 11, h.cell 12⟩
theorem Blk.new (w : World) (t : TypeId) (vs : Array Value) : Blk (w.alloc (.cells vs t)) w.heap.size t vs := heap_alloc_new w _
theorem Blk.alloc {w : World} {b : Nat} {t : TypeId} {vs : Array Value} (h : Blk w b t vs) (o : Obj) : Blk (w.alloc o) b t vs := (heap_alloc_old w o h.lt).trans h
theorem OwnT.block {w w' : World} {b : Nat} {v : Value} {l : List ByteArray} (h : OwnT w b v l) (hh : ∀ g, b <= g -> w'.heap[g]? = w.heap[g]?) : OwnT w' b v l := by
 obtain ⟨h1, h2⟩ := h
 refine ⟨h1, ?_⟩
 rcases h2 with h2 | ⟨g, cap, cur, hv, hbg, hg, r⟩
 ·exact .inl h2
 ·exact .inr ⟨g, cap, cur, hv, hbg, (hh g hbg).trans hg, r⟩
theorem szIntS_any (a0 : Option Addr) (len cap : Nat) (left : Int) (w : World) (hm : len <= 9223372036854775807) (h0 : 0 <= left) (hl : left <= 1048576) :
  Calls Tryz.prog 17 #[.slice a0 len cap, .int .i64 left] w fun e w' => e = .returned (.int .i64 (if (len : Int) <= left then left - (len : Int) else -1)) /\ Below w.heap.size w w' := by
 have w1 : IntKind.i64.wrap (left - (len : Int)) = left - (len : Int) := by rw [IntKind.wrap_i64]; omega
 by_cases h : (len : Int) <= left
 ·have hneg : ¬ left - (len : Int) < 0 := by omega
  rw [if_pos h]
  go_enter Tryz.func17, Tryz.ntmps17
  go_wp2
  go_ret
  exact ⟨rfl, Below.refl _ _⟩
 ·have hneg : left - (len : Int) < 0 := by omega
  rw [if_neg h]
  go_enter Tryz.func17, Tryz.ntmps17
  go_wp2
  go_ret
  exact ⟨rfl, Below.refl _ _⟩
end Go.Proofs.YtagmnlmfoanelaaGreat
