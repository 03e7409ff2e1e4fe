/-
  Texts of the proof.
-/
import Derived.WalkKit
import Derived.Laws.OwnMore
import Derived.Deep.Cut
import Derived.Deep.QuietTactic
import Derived.BigQuiet
import Derived.Test.YtagmnlmfoanelaaGreatSK1
set_option maxRecDepth 100000
set_option maxHeartbeats 25600000
namespace Go.Proofs.YtagmnlmfoanelaaGreat
set_option linter.unusedSimpArgs false
def ev : List Int -> Int
 | [] => 0
 | x :: xs => x + 10000 * ev xs
theorem getD_take {l : List Int} {k j : Nat} (h : j < k) : (l.take k).getD j 0 = l.getD j 0 := by simp [List.getD, h]
theorem getD_set {l : List Int} {k j : Nat} (x : Int) (hk : k < l.length) : (l.set k x).getD j 0 = if j = k then x else l.getD j 0 := by
 by_cases h : j = k
 ·subst h
  simp [List.getD, hk]
 ·rw [if_neg h]
  simp [List.getD, List.getElem?_set_ne (fun e => h e.symm)]
theorem ext_getD {a b : List Int} (hl : a.length = b.length) (h : ∀ j, j < a.length -> a.getD j 0 = b.getD j 0) : a = b := by
 apply List.ext_getElem hl
 intro j h1 h2
 have := h j h1
 simpa [List.getD, h1, h2] using this
def fillL (f : Nat -> Int) (k n : Nat) : List Int := (List.range n).map fun j => if j < k then f j else 0
theorem fillL_len (f : Nat -> Int) (k n : Nat) : (fillL f k n).length = n := by simp [fillL]
theorem fillL_getD (f : Nat -> Int) (k n j : Nat) : (fillL f k n).getD j 0 = if j < n /\ j < k then f j else 0 := by
 unfold fillL
 by_cases hj : j < n
 ·simp [List.getD, hj]
 ·simp [List.getD, hj]
theorem fillL_zero (f : Nat -> Int) (n : Nat) : fillL f 0 n = List.replicate n 0 := by
 apply List.ext_getElem (by simp [fillL])
 intro j h1 h2
 simp [fillL]
theorem fillL_set (f : Nat -> Int) (k n : Nat) (h : k < n) : (fillL f k n).set k (f k) = fillL f (k + 1) n := by
 apply ext_getD (by simp [fillL])
 intro j hj
 have hj' : j < n := by simpa [fillL] using hj
 rw [getD_set _ (by rw [fillL_len]; exact h), fillL_getD, fillL_getD]
 by_cases h1 : j = k
 ·subst h1; simp [h]
 ·rw [if_neg h1]
  by_cases h2 : j < k
  ·rw [if_pos ⟨hj', h2⟩, if_pos ⟨hj', by omega⟩]
  ·rw [if_neg (by omega), if_neg (by omega)]
end Go.Proofs.YtagmnlmfoanelaaGreat
namespace Go.Proofs.YtagmnlmfoanelaaGreat
open Go.RowKit
theorem info3 : (Tryz.prog.info? 3).map (fun i => (i.zero, i.size, i.bytes)) = some (some (.int .i64 0), 1, 8) := by kernel_rfl
def OwnI (w : World) (base : Nat) (v : Value) (l : List Int) : Prop := w.ownsRow base 3 1 v l.length (cellsI l)
theorem cellsI_len (l : List Int) : (cellsI l).length = l.length := by simp [cellsI]
theorem cellsI_set (l : List Int) (k : Nat) (x : Int) : (cellsI l).set k (.int .i64 x) = cellsI (l.set k x) := by simp [cellsI]
theorem cellsI_getD {l : List Int} {j : Nat} (h : j < l.length) : (cellsI l)[j]? = some (.int .i64 (l.getD j 0)) := by simp [cellsI, List.getD, h]
theorem OwnI.at {w : World} {base : Nat} {v : Value} {l : List Int} (h : OwnI w base v l) : IntAt w v l := IntAt.of_own h
theorem OwnI.stays {w w' : World} {base : Nat} {v : Value} {l : List Int} (h : OwnI w base v l) (hb : Below w.heap.size w w') : OwnI w' base v l := by
 obtain ⟨h1, h2⟩ := h
 refine ⟨h1, ?_⟩
 rcases h2 with h2 | ⟨g, cap, cur, hv, hbg, hg, r⟩
 ·exact .inl h2
 ·have hlt : g < w.heap.size := by
   rcases Nat.lt_or_ge g w.heap.size with h | h
   ·exact h
   ·rw [Array.getElem?_eq_none h] at hg; cases hg
  exact .inr ⟨g, cap, cur, hv, hbg, by rw [hb.block g hlt]; exact hg, r⟩
theorem OwnI.base {w : World} {b b' : Nat} {v : Value} {l : List Int} (h : OwnI w b v l) (hb : b' <= b) : OwnI w b' v l := by
 obtain ⟨h1, h2⟩ := h
 refine ⟨h1, ?_⟩
 rcases h2 with h2 | ⟨g, cap, cur, hv, hbg, r⟩
 ·exact .inl h2
 ·exact .inr ⟨g, cap, cur, hv, Nat.le_trans hb hbg, r⟩
theorem OwnI.nil (w : World) (base : Nat) : OwnI w base (.slice none 0 0) [] := World.ownsRow_nil _ _ _ _
theorem OwnI.shape {w : World} {base : Nat} {v : Value} {l : List Int} (h : OwnI w base v l) : ∃ ao cap, v = .slice ao l.length cap /\ (0 < l.length -> ∃ g, ao = some ⟨g, 0, none⟩) /\ l.length <= cap /\ cap <= maxLen := by
 rcases h.2 with ⟨h1, h0⟩ | ⟨g, cap, cur, hv, _, _, hn, hm, _⟩
 ·exact ⟨none, 0, by rw [h1, h0], fun h => by omega, by omega, Nat.zero_le _⟩
 ·exact ⟨some ⟨g, 0, none⟩, cap, hv, fun _ => ⟨g, rfl⟩, hn, hm⟩
theorem OwnI.cell {w : World} {base g cap : Nat} {l : List Int} (h : OwnI w base (.slice (some ⟨g, 0, none⟩) l.length cap) l) {j : Nat} (hj : j < l.length) : w.cell? ⟨g, j, none⟩ = some (.int .i64 (l.getD j 0)) := by
 rw [World.ownsRow.cellAt h j (by omega), cellsI_getD hj]
theorem OwnI.frozen {w : World} {base g cap : Nat} {l : List Int} (h : OwnI w base (.slice (some ⟨g, 0, none⟩) l.length cap) l) (j : Nat) : w.frozen? ⟨g, j, none⟩ = false := World.ownsRow.frozenAt h j
theorem OwnI.set {w : World} {base g cap : Nat} {l : List Int} (h : OwnI w base (.slice (some ⟨g, 0, none⟩) l.length cap) l) (j : Nat) (x : Int) :
  OwnI (w.setCell ⟨g, j, none⟩ (.int .i64 x)) base (.slice (some ⟨g, 0, none⟩) (l.set j x).length cap) (l.set j x) := by
 have := (World.ownsRow.stored h j (.int .i64 x)).1
 rw [cellsI_set] at this
 unfold OwnI
 rw [List.length_set]
 exact this
theorem grown_trans {a b c : World} {row : Option Nat} (h1 : a.grownBy b row) (h2 : b.grownBy c row) : a.grownBy c row :=
 ⟨h2.os.trans h1.os, h2.tape.trans h1.tape, h2.output.trans h1.output, Nat.le_trans h1.size h2.size, fun k hk hr => (h2.block k (Nat.lt_of_lt_of_le hk h1.size) hr).trans (h1.block k hk hr)⟩
theorem grown_set (w : World) (g j : Nat) (u : Value) : w.grownBy (w.setCell ⟨g, j, none⟩ u) (some g) :=
 ⟨rfl, rfl, rfl, by simp [World.setCell], fun k _ hk => heap_setCell_other w ⟨g, j, none⟩ k u (fun e => hk (by simp [e]))⟩
theorem made_zeros (n : Nat) : (madeCells #[Value.int .i64 0] n).toList = cellsI (List.replicate n 0) := by
 apply List.ext_getElem (by simp [madeCells, cellsI])
 intro j h1 h2
 simp [madeCells, cellsI, Nat.mod_one]
theorem OwnI.of_made {w : World} {base g n : Nat} (h : w.ownsRow base 3 1 (.slice (some ⟨g, 0, none⟩) n n) n (madeCells #[Value.int .i64 0] n).toList) :
  OwnI w base (.slice (some ⟨g, 0, none⟩) (List.replicate n (0 : Int)).length n) (List.replicate n 0) := by
 rw [made_zeros] at h
 unfold OwnI
 rw [List.length_replicate]
 exact h
def Wd (l : List Int) : Prop := ∀ x ∈ l, -9223372036854775808 <= x /\ x <= 9223372036854775807
def ArgAt (B : Nat) (w : World) (a0 : Option Addr) (l : List Int) : Prop := ∀ j, j < l.length -> ∃ b off, a0 = some ⟨b, off, none⟩ /\ b < B /\ w.cell? ⟨b, off + j, none⟩ = some (.int .i64 (l.getD j 0))
theorem ArgAt.below {B : Nat} {w w' : World} {a0 : Option Addr} {l : List Int} (h : ArgAt B w a0 l) (hb : Below B w w') : ArgAt B w' a0 l := fun j hj => by
 obtain ⟨b, off, e, hbB, hc⟩ := h j hj
 exact ⟨b, off, e, hbB, (hb.cell (p := ⟨b, off + j, none⟩) hbB).trans hc⟩
theorem lt_of_cell {w : World} {p : Addr} {v : Value} (h : w.cell? p = some v) : p.block < w.heap.size := by
 rcases Nat.lt_or_ge p.block w.heap.size with h1 | h1
 ·exact h1
 ·unfold World.cell? at h
  rw [Array.getElem?_eq_none h1] at h
  simp at h
theorem argAt_of {W : World} {x : Addr} {len cap : Nat} {zs : List Int} (hl : len <= cap) (hz : zs.length = cap) (hcell : ∀ i, i < zs.length -> W.cell? (x.add i) = some (.int .i64 (zs.getD i 0))) (hwz : ∀ n ∈ zs, (Lit.int .i64 n).wf = true) :
  (zs.take len).length = len /\ Wd (zs.take len) /\ ArgAt W.heap.size W (some x) (zs.take len) := by
 have hlen : (zs.take len).length = len := by simp; omega
 refine ⟨hlen, fun n hn => ?_, fun j hj => ?_⟩
 ·have hw := hwz n (List.mem_of_mem_take hn)
  simpa [Lit.wf, IntKind.min, IntKind.max, IntKind.signed, IntKind.bits] using hw
 ·rw [hlen] at hj
  have hc := hcell j (by omega)
  have hc0 := hcell 0 (by omega)
  obtain ⟨b, off, spot⟩ := x
  have hspot : spot = none := by simpa [Addr.add] using World.cell?_spot hc0
  subst hspot
  rw [Addr.add_lit] at hc
  refine ⟨b, off, rfl, lt_of_cell hc, ?_⟩
  rw [hc, getD_take hj]
def Ap (u v : Value) : Prop := u.ownBlock = none ∨ u.ownBlock ≠ v.ownBlock
theorem mark_any (v : Value) (l : List Int) (k base : Nat) (w : World) (hl : l.length <= 1000000000) (hk : k <= 1000000000) (hv : OwnI w base v l) :
  Calls Tryz.prog 36 #[v, .int .i64 k] w fun e w' => e = .returned (.int .i64 ((k : Int) + (l.length : Int))) /\ OwnI w' base v (marksI k l.length) /\ w.grownBy w' v.ownBlock := by
 obtain ⟨n, hn⟩ := zE (l.length)
 have HN : Hid (l.length = n) := hn
 obtain ⟨ao, cap, rfl, hc, _⟩ := hv.shape
 rw [hn] at hc hl
 have hv' : OwnI w base (.slice ao n cap) l := hn ▸ hv
 rw [hn]
 have HV : Hid (OwnI w base (.slice ao n cap) l) := hv'
 have HC : Hid (0 < n -> ∃ g, ao = some ⟨g, 0, none⟩) := hc
 clear hv hv' hc hn
 go_enter Tryz.func36, Tryz.ntmps36
 go_wp2
 go_loopw [1, 5] (fun kv iv wr => ∃ (j : Nat) (L : List Int), j <= n /\ kv = .int .i64 ((k : Int) + (j : Int)) /\ iv = .int .i64 j /\ Hid (L.length = n /\ (∀ i, i < j -> L.getD i 0 = (k : Int) + (i : Int)) /\ OwnI wr base (.slice ao n cap) L /\ w.grownBy wr (Value.slice ao n cap).ownBlock)) (fun _ iv _ => n - (intOf iv).toNat)
 case atStart => exact ⟨0, l, Nat.zero_le _, by simp, rfl, HN.out, fun i hi => by omega, HV.out, World.grownBy.refl _ _⟩
 case round =>
  obtain ⟨j, L, hj, rfl, rfl, H⟩ := hrel
  by_cases hlt : j < n
  ·obtain ⟨g, hao⟩ := HC.out (by omega)
   subst hao
   have hL := H.out.1
   have hO : OwnI wr base (.slice (some ⟨g, 0, none⟩) L.length cap) L := by rw [hL]; exact H.out.2.2.1
   have hu := hO.cell (j := j) (by omega)
   have hf := hO.frozen j
   have HX : Hid ((L.set j ((k : Int) + (j : Int))).length = n /\ (∀ i, i < j + 1 -> (L.set j ((k : Int) + (j : Int))).getD i 0 = (k : Int) + (i : Int)) /\ OwnI (wr.setCell ⟨g, j, none⟩ (.int .i64 ((k : Int) + (j : Int)))) base (.slice (some ⟨g, 0, none⟩) n cap) (L.set j ((k : Int) + (j : Int))) /\ w.grownBy (wr.setCell ⟨g, j, none⟩ (.int .i64 ((k : Int) + (j : Int)))) (Value.slice (some ⟨g, 0, none⟩) n cap).ownBlock) := by
    refine ⟨by simp [hL], fun i hi => ?_, ?_, grown_trans H.out.2.2.2 (grown_set wr g j _)⟩
    ·rw [getD_set _ (by omega)]
     by_cases e : i = j
     ·rw [if_pos e, e]
     ·rw [if_neg e]; exact H.out.2.1 i (by omega)
    ·have h := hO.set j ((k : Int) + (j : Int))
     rw [List.length_set, hL] at h
     exact h
   clear H hO hL
   generalize L.getD j 0 = z at *
   have hji : (j : Int) < (n : Int) := by omega
   have hj0 : (0 : Int) <= (j : Int) := by omega
   go_wp2_with fail
   go_roundw
   case rel => exact ⟨j + 1, _, by omega, by go_num, by go_num, HX.out⟩
   case measure => simp [intOf]; omega
  ·have hjn : j = n := by omega
   subst hjn
   have HE : Hid (L = marksI k j) := ext_getD (by rw [H.out.1, marksI_len]) (fun i hi => by
    rw [H.out.1] at hi
    rw [H.out.2.1 i hi]
    simp [marksI, List.getD, hi])
   go_wp2
   go_ret
   exact ⟨rfl, by rw [<- HE.out]; exact H.out.2.2.1, H.out.2.2.2⟩
theorem toIntS_any (a0 : Option Addr) (l : List Int) (len cap B : Nat) (w : World) (hlen : l.length = len) (hl : len <= 1048576) (hB : B <= w.heap.size) (ha : ArgAt B w a0 l) :
  Calls Tryz.prog 26 #[.slice a0 len cap] w fun e w' => ∃ v, e = .returned v /\ OwnI w' w.heap.size v l /\ Below w.heap.size w w' := by
 obtain ⟨i0, hi, hz0, hz1, hz2⟩ := info_parts info3
 have HA : Hid (ArgAt B w a0 l /\ l.length = len) := ⟨ha, hlen⟩
 clear ha hlen
 obtain ⟨f, hf⟩ : ∃ f : Nat -> Int, (fun j => l.getD j 0) = f := ⟨_, rfl⟩
 have HF : Hid ((fun j => l.getD j 0) = f) := hf
 clear hf
 go_enter Tryz.func26, Tryz.ntmps26
 go_wp2_with (at_make; refine wpList_make_full _ rfl _ _ 24 rfl w.heap.size 3 i0 (.int .i64 0) 1 Tryz.underlying24 hi hz0 hz1 .i64 .i64 _ _ len rfl rfl ?m0 ?m1 ?m2 ?m3 ?m4 ?_)
 case m0 => simp
 case m1 => simp
 case m2 => rw [hz2]; omega
 case m3 => unfold maxLen; omega
 case m4 => exact Nat.le_refl _
 intro w1 hown hgrow
 have HO : Hid (OwnI w1 w.heap.size (.slice (some ⟨w.heap.size, 0, none⟩) (fillL f 0 len).length len) (fillL f 0 len) /\ Below w.heap.size w w1) := by
  refine ⟨?_, (Below.refl _ _).grown hgrow (Nat.le_refl _) (fun j hj => by cases hj)⟩
  rw [fillL_zero]
  exact OwnI.of_made hown
 clear hown hgrow
 go_wp2_with fail
 go_loopw [4] (fun iv wr => ∃ k : Nat, k <= len /\ iv = .int .i64 k /\ Hid (OwnI wr w.heap.size (.slice (some ⟨w.heap.size, 0, none⟩) (fillL f k len).length len) (fillL f k len) /\ Below w.heap.size w wr)) (fun iv _ => len - (intOf iv).toNat)
 case atStart => exact ⟨0, Nat.zero_le _, rfl, HO.out⟩
 case round =>
  obtain ⟨k, hk, rfl, H⟩ := hrel
  clear HO
  have hfl := fillL_len f k len
  by_cases hkn : k < len
  ·have hu := H.out.1.cell (j := k) (by omega)
   have hfz := H.out.1.frozen k
   obtain ⟨b, off, hao, hbB, hcs⟩ := HA.out.1 k (by rw [HA.out.2]; exact hkn)
   have hua : wr.cell? ⟨b, off + k, none⟩ = some (.int .i64 (l.getD k 0)) := by
    rw [H.out.2.cell (p := ⟨b, off + k, none⟩) (by show b < w.heap.size; omega), hcs]
   subst hao
   have hfk : l.getD k 0 = f k := congrFun HF.out k
   rw [hfk] at hua
   have HN : Hid (OwnI (wr.setCell ⟨w.heap.size, k, none⟩ (.int .i64 (f k))) w.heap.size (.slice (some ⟨w.heap.size, 0, none⟩) (fillL f (k + 1) len).length len) (fillL f (k + 1) len) /\ Below w.heap.size w (wr.setCell ⟨w.heap.size, k, none⟩ (.int .i64 (f k)))) :=
    ⟨by have := H.out.1.set k (f k); rwa [fillL_set f k _ hkn] at this, Below.setCell (p := ⟨w.heap.size, k, none⟩) H.out.2 (Nat.le_refl _) _⟩
   clear hfk H hfl hcs hbB
   generalize f k = x at *
   generalize (fillL f k len).getD k 0 = z at *
   have hki : (k : Int) < (len : Int) := by omega
   have hk0 : (0 : Int) <= (k : Int) := by omega
   go_wp2_with fail
   go_roundw
   case rel => exact ⟨k + 1, by omega, by go_num, HN.out⟩
   case measure => simp [intOf]; omega
  ·have hkl : k = len := by omega
   subst hkl
   have HE : Hid (fillL f k k = l) := by
    rw [<- HF.out]
    refine ext_getD (by rw [fillL_len, HA.out.2]) fun j hj => ?_
    rw [fillL_len] at hj
    rw [fillL_getD, if_pos ⟨hj, hj⟩]
   go_wp2
   go_ret
   refine ⟨_, rfl, ?_, H.out.2⟩
   have h := H.out.1
   rw [HE.out, HA.out.2] at h
   exact h
end Go.Proofs.YtagmnlmfoanelaaGreat
