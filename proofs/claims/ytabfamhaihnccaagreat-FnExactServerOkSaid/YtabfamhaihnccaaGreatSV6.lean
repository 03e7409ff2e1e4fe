/-
  Texts of the proof.
-/
import Derived.Laws.OwnMore
import Derived.Deep.RegionHeld3
import Derived.Test.YtabfamhaihnccaaGreatSV5
set_option maxRecDepth 100000
set_option maxHeartbeats 25600000
namespace Go.Proofs.YtabfamhaihnccaaGreat
open Go.RowKit
set_option linter.unusedVariables false
def cellsR (l : List (Int × Int)) : List Value := l.flatMap fun p => [.int .i64 p.1, .int .i64 p.2]
theorem cellsR_cons (x : Int × Int) (l : List (Int × Int)) : cellsR (x :: l) = .int .i64 x.1 :: .int .i64 x.2 :: cellsR l := rfl
theorem cellsR_at : ∀ (l : List (Int × Int)) (j : Nat), j < l.length -> (cellsR l)[j * 2]? = some (.int .i64 (l.getD j (0, 0)).1) /\ (cellsR l)[j * 2 + 1]? = some (.int .i64 (l.getD j (0, 0)).2)
 | [], j, h => absurd h (Nat.not_lt_zero _)
 | x :: l, 0, _ => ⟨rfl, rfl⟩
 | x :: l, j + 1, h => by
  have ih := cellsR_at l j (by simpa using h)
  rw [cellsR_cons, show (j + 1) * 2 = j * 2 + 1 + 1 by omega]
  simpa using ih
theorem cellsR_set : ∀ (l : List (Int × Int)) (j : Nat) (x : Int × Int), ((cellsR l).set (j * 2) (.int .i64 x.1)).set (j * 2 + 1) (.int .i64 x.2) = cellsR (l.set j x)
 | [], j, x => by simp [cellsR]
 | y :: l, 0, x => rfl
 | y :: l, j + 1, x => by
  rw [List.set_cons_succ, cellsR_cons, cellsR_cons, <- cellsR_set l j x, show (j + 1) * 2 = j * 2 + 1 + 1 by omega]
  rfl
def RevAt (w : World) (v : Value) (l : List (Int × Int)) : Prop := ∃ ao cap, v = .slice ao l.length cap /\ ∀ j, j < l.length -> ∃ g, ao = some ⟨g, 0, none⟩ /\ g < w.heap.size /\ w.cell? ⟨g, j * 2, none⟩ = some (.int .i64 (l.getD j (0, 0)).1) /\ w.cell? ⟨g, j * 2 + 1, none⟩ = some (.int .i64 (l.getD j (0, 0)).2)
theorem RevAt.below {w w' : World} {v : Value} {l : List (Int × Int)} (h : RevAt w v l) (hb : Below w.heap.size w w') : RevAt w' v l := by
 obtain ⟨ao, cap, hv, h⟩ := h
 refine ⟨ao, cap, hv, fun j hj => ?_⟩
 obtain ⟨g, hg, hlt, h1, h2⟩ := h j hj
 exact ⟨g, hg, Nat.lt_of_lt_of_le hlt hb.size, (hb.cell (p := ⟨g, j * 2, none⟩) hlt).trans h1, (hb.cell (p := ⟨g, j * 2 + 1, none⟩) hlt).trans h2⟩
def OwnR (w : World) (base : Nat) (v : Value) (l : List (Int × Int)) : Prop := w.ownsRow base 166 2 v l.length (cellsR l)
theorem OwnR.cell {w : World} {base g cap : Nat} {l : List (Int × Int)} (h : OwnR w base (.slice (some ⟨g, 0, none⟩) l.length cap) l) {j : Nat} (hj : j < l.length) : w.cell? ⟨g, j * 2, none⟩ = some (.int .i64 (l.getD j (0, 0)).1) /\ w.cell? ⟨g, j * 2 + 1, none⟩ = some (.int .i64 (l.getD j (0, 0)).2) := by
 rw [World.ownsRow.cellAt h (j * 2) (by omega), World.ownsRow.cellAt h (j * 2 + 1) (by omega)]
 exact cellsR_at l j hj
theorem OwnR.at {w : World} {base : Nat} {v : Value} {l : List (Int × Int)} (h : OwnR w base v l) : RevAt w v l := by
 have hc := fun g (hg : v.ownBlock = some g) => (World.ownsRow.lt h g hg).2
 have h' := h
 obtain ⟨h1, h2⟩ := h
 rcases h2 with ⟨rfl, h0⟩ | ⟨g, cap, cur, rfl, hbg, hg, r⟩
 ·exact ⟨none, 0, by rw [h0], fun j hj => by omega⟩
 ·exact ⟨some ⟨g, 0, none⟩, cap, rfl, fun j hj => ⟨g, rfl, hc g rfl, h'.cell hj⟩⟩
theorem OwnR.stays {w w' : World} {base : Nat} {v : Value} {l : List (Int × Int)} (h : OwnR w base v l) (hb : Below w.heap.size w w') : OwnR w' base v l := by
 obtain ⟨h1, h2⟩ := h
 refine ⟨h1, ?_⟩
 rcases h2 with h2 | ⟨g, cap, cur, hv, hbg, hg, r⟩
 ·exact .inl h2
 ·have hlt : g < w.heap.size := by
   rcases Nat.lt_or_ge g w.heap.size with h | h
   ·exact h
   ·rw [Array.getElem?_eq_none h] at hg; cases hg
  exact .inr ⟨g, cap, cur, hv, hbg, by rw [hb.block g hlt]; exact hg, r⟩
theorem OwnR.block {w w' : World} {b : Nat} {v : Value} {l : List (Int × Int)} (h : OwnR w b v l) (hh : ∀ g, b <= g -> w'.heap[g]? = w.heap[g]?) : OwnR w' b v l := by
 obtain ⟨h1, h2⟩ := h
 refine ⟨h1, ?_⟩
 rcases h2 with h2 | ⟨g, cap, cur, hv, hbg, hg, r⟩
 ·exact .inl h2
 ·exact .inr ⟨g, cap, cur, hv, hbg, (hh g hbg).trans hg, r⟩
theorem OwnR.base {w : World} {b b' : Nat} {v : Value} {l : List (Int × Int)} (h : OwnR w b v l) (hb : b' <= b) : OwnR w b' v l := by
 obtain ⟨h1, h2⟩ := h
 refine ⟨h1, ?_⟩
 rcases h2 with h2 | ⟨g, cap, cur, hv, hbg, r⟩
 ·exact .inl h2
 ·exact .inr ⟨g, cap, cur, hv, Nat.le_trans hb hbg, r⟩
theorem OwnR.shape {w : World} {base : Nat} {v : Value} {l : List (Int × Int)} (h : OwnR w base v l) : ∃ ao cap, v = .slice ao l.length cap /\ (0 < l.length -> ∃ g, ao = some ⟨g, 0, none⟩) /\ l.length <= cap /\ cap <= maxLen := by
 rcases h.2 with ⟨h1, h0⟩ | ⟨g, cap, cur, hv, _, _, hn, hm, _⟩
 ·exact ⟨none, 0, by rw [h1, h0], fun h => by omega, by omega, Nat.zero_le _⟩
 ·exact ⟨some ⟨g, 0, none⟩, cap, hv, fun _ => ⟨g, rfl⟩, hn, hm⟩
theorem OwnR.frozen {w : World} {base g cap : Nat} {l : List (Int × Int)} (h : OwnR w base (.slice (some ⟨g, 0, none⟩) l.length cap) l) (j : Nat) : w.frozen? ⟨g, j, none⟩ = false := World.ownsRow.frozenAt h j
theorem OwnR.set {w : World} {base g cap : Nat} {l : List (Int × Int)} (h : OwnR w base (.slice (some ⟨g, 0, none⟩) l.length cap) l) (j : Nat) (x : Int × Int) :
  OwnR ((w.setCell ⟨g, j * 2, none⟩ (.int .i64 x.1)).setCell ⟨g, j * 2 + 1, none⟩ (.int .i64 x.2)) base (.slice (some ⟨g, 0, none⟩) (l.set j x).length cap) (l.set j x) := by
 have h1 := (World.ownsRow.stored h (j * 2) (.int .i64 x.1)).1
 have h2 := (World.ownsRow.stored h1 (j * 2 + 1) (.int .i64 x.2)).1
 rw [cellsR_set] at h2
 unfold OwnR
 rw [List.length_set]
 exact h2
def ArgR (B : Nat) (w : World) (a0 : Option Addr) (l : List (Int × Int)) : Prop := ∀ j, j < l.length -> ∃ b off, a0 = some ⟨b, off, none⟩ /\ b < B /\ w.cell? ⟨b, off + j * 2, none⟩ = some (.int .i64 (l.getD j (0, 0)).1) /\ w.cell? ⟨b, off + j * 2 + 1, none⟩ = some (.int .i64 (l.getD j (0, 0)).2)
theorem ArgR.below {B : Nat} {w w' : World} {a0 : Option Addr} {l : List (Int × Int)} (h : ArgR B w a0 l) (hb : Below B w w') : ArgR B w' a0 l := fun j hj => by
 obtain ⟨b, off, e, hbB, h1, h2⟩ := h j hj
 exact ⟨b, off, e, hbB, (hb.cell (p := ⟨b, off + j * 2, none⟩) hbB).trans h1, (hb.cell (p := ⟨b, off + j * 2 + 1, none⟩) hbB).trans h2⟩
theorem ArgR.mono {B B' : Nat} {w : World} {a0 : Option Addr} {l : List (Int × Int)} (h : ArgR B w a0 l) (hB : B <= B') : ArgR B' w a0 l := fun j hj => by
 obtain ⟨b, off, e, hbB, h1, h2⟩ := h j hj
 exact ⟨b, off, e, by omega, h1, h2⟩
def WdR (l : List (Int × Int)) : Prop := ∀ x ∈ l, (-9223372036854775808 <= x.1 /\ x.1 <= 9223372036854775807) /\ (-9223372036854775808 <= x.2 /\ x.2 <= 9223372036854775807)
theorem getR_mem {l : List (Int × Int)} {k : Nat} (h : k < l.length) : l.getD k (0, 0) ∈ l := by
 rw [List.getD_eq_getElem?_getD, List.getElem?_eq_getElem h]
 exact List.getElem_mem _
theorem infoRev : (Tryz.prog.info? 166).map (fun i => (i.zero, i.size, i.bytes)) = some (some (.agg #[.int .i64 0, .int .i64 0]), 2, 16) := by kernel_rfl
def fillR (f : Nat -> Int × Int) (k n : Nat) : List (Int × Int) := (List.range n).map fun j => if j < k then f j else (0, 0)
theorem fillR_len (f : Nat -> Int × Int) (k n : Nat) : (fillR f k n).length = n := by simp [fillR]
theorem fillR_zero (f : Nat -> Int × Int) (n : Nat) : fillR f 0 n = List.replicate n (0, 0) := by
 apply List.ext_getElem (by simp [fillR])
 intro j h1 h2
 simp [fillR]
theorem fillR_set (f : Nat -> Int × Int) (k n : Nat) (hk : k < n) : (fillR f k n).set k (f k) = fillR f (k + 1) n := by
 apply List.ext_getElem (by simp [fillR])
 intro j h1 h2
 simp only [fillR, List.getElem_set, List.getElem_map, List.getElem_range]
 by_cases e : k = j
 ·subst e; simp
 ·rw [if_neg e]
  by_cases h : j < k
  ·rw [if_pos h, if_pos (by omega)]
  ·rw [if_neg h, if_neg (by omega)]
theorem fillR_all (l : List (Int × Int)) : fillR (fun j => l.getD j (0, 0)) l.length l.length = l := by
 apply List.ext_getElem (by simp [fillR])
 intro j h1 h2
 simp [fillR, List.getD, h2]
theorem cells_zeros (n : Nat) : cellsR (List.replicate n (0, 0)) = List.replicate (n * 2) (.int .i64 0) := by
 induction n with
 | zero => rfl
 | succ n ih => rw [List.replicate_succ, cellsR_cons, ih, show (n + 1) * 2 = n * 2 + 1 + 1 by omega, List.replicate_succ, List.replicate_succ]
theorem made_revs (n : Nat) : (madeCells (Value.agg #[.int .i64 0, .int .i64 0]).cells (n * 2)).toList = cellsR (List.replicate n (0, 0)) := by
 rw [cells_zeros]
 apply List.ext_getElem (by simp [madeCells])
 intro j h1 h2
 rcases Nat.mod_two_eq_zero_or_one j with e | e <;> simp [madeCells, Value.cells, e]
theorem OwnR.of_made {w : World} {base g n : Nat} (h : w.ownsRow base 166 2 (.slice (some ⟨g, 0, none⟩) n n) n (madeCells (Value.agg #[.int .i64 0, .int .i64 0]).cells (n * 2)).toList) :
  OwnR w base (.slice (some ⟨g, 0, none⟩) (List.replicate n ((0 : Int), (0 : Int))).length n) (List.replicate n (0, 0)) := by
 rw [made_revs] at h
 unfold OwnR
 rw [List.length_replicate]
 exact h
structure Cl where
 issuer : ByteArray
 num : Int
 ths : Int
 nxt : Int
 bas : Int
 revs : List (Int × Int)
 sig : ByteArray
def clV (c : Cl) (p : Value) : Value := .agg #[.string c.issuer, .int .i64 c.num, .int .i64 c.ths, .int .i64 c.nxt, .int .i64 c.bas, p, .string c.sig]
def ClAt (w : World) (v : Value) (c : Cl) : Prop := ∃ p, v = clV c p /\ RevAt w p c.revs
theorem ClAt.below {w w' : World} {v : Value} {c : Cl} (h : ClAt w v c) (hb : Below w.heap.size w w') : ClAt w' v c := by
 obtain ⟨p, hv, h1⟩ := h
 exact ⟨p, hv, h1.below hb⟩
theorem ClAt.shape {w : World} {v : Value} {c : Cl} (h : ClAt w v c) : ∃ p q, v = clV c (.slice p c.revs.length q) := by
 obtain ⟨pv, hv, ⟨p, q, h1, _⟩⟩ := h
 exact ⟨p, q, by rw [hv, h1]⟩
def OwnL (w : World) (base : Nat) (v : Value) (c : Cl) : Prop := ∃ p, v = clV c p /\ OwnR w base p c.revs
theorem OwnL.at {w : World} {base : Nat} {v : Value} {c : Cl} (h : OwnL w base v c) : ClAt w v c := by
 obtain ⟨p, hv, h1⟩ := h
 exact ⟨p, hv, h1.at⟩
theorem OwnL.base {w : World} {b b' : Nat} {v : Value} {c : Cl} (h : OwnL w b v c) (hb : b' <= b) : OwnL w b' v c := by
 obtain ⟨p, hv, h1⟩ := h
 exact ⟨p, hv, h1.base hb⟩
def ArgL (B : Nat) (w : World) (v : Value) (c : Cl) : Prop := ∃ pa pc, v = clV c (.slice pa c.revs.length pc) /\ ArgR B w pa c.revs
theorem ArgL.below {B : Nat} {w w' : World} {v : Value} {c : Cl} (h : ArgL B w v c) (hb : Below B w w') : ArgL B w' v c := by
 obtain ⟨pa, pc, hv, h1⟩ := h
 exact ⟨pa, pc, hv, h1.below hb⟩
theorem ArgL.mono {B B' : Nat} {w : World} {v : Value} {c : Cl} (h : ArgL B w v c) (hB : B <= B') : ArgL B' w v c := by
 obtain ⟨pa, pc, hv, h1⟩ := h
 exact ⟨pa, pc, hv, h1.mono hB⟩
def wtL (c : Cl) : Nat := c.issuer.size + c.revs.length + c.sig.size
def WdL (c : Cl) : Prop := Wd [c.num, c.ths, c.nxt, c.bas] /\ WdR c.revs /\ WdT [c.issuer, c.sig] /\ c.revs.length <= 9223372036854775807
def szL (c : Cl) (left : Int) : Int := if (wtL c : Int) <= left then left - wtL c else -1
theorem wtL_parts {c : Cl} {b : Nat} (h : wtL c <= b) : c.issuer.size <= b /\ c.revs.length <= b /\ c.sig.size <= b := by unfold wtL at h; omega
theorem toRev_any (s r : Int) (w : World) : Calls Tryz.prog 113 #[.agg #[.int .i64 s, .int .i64 r]] w fun e w' => e = .returned (.agg #[.int .i64 s, .int .i64 r]) /\ Below w.heap.size w w' := by
 go_enter Tryz.func113, Tryz.ntmps113
 go_wp2_with fail
 refine bodyPost_ret (v := .agg #[.int .i64 s, .int .i64 r]) (by simp [results, Tryz.results113, go_sem]) rfl ⟨rfl, ?_⟩
 have e0 := size_alloc w (Obj.cells #[.int .i64 s, .int .i64 r] 168)
 have e1 := size_alloc (w.alloc (Obj.cells #[.int .i64 s, .int .i64 r] 168)) (Obj.cells #[.int .i64 s, .int .i64 r] 166)
 exact (((Below.refl _ _).alloc (Nat.le_refl _) _).alloc (by omega) _).alloc (by omega) _
theorem toRevS_any (a0 : Option Addr) (l : List (Int × Int)) (len cap B : Nat) (w : World) (hlen : l.length = len) (hl : len <= 1048576) (hB : B <= w.heap.size) (ha : ArgR B w a0 l) :
  Calls Tryz.prog 64 #[.slice a0 len cap] w fun e w' => ∃ v, e = .returned v /\ OwnR w' w.heap.size v l /\ Below w.heap.size w w' := by
 obtain ⟨i0, hi, hz0, hz1, hz2⟩ := info_parts infoRev
 have HA : Hid (ArgR B w a0 l /\ l.length = len) := ⟨ha, hlen⟩
 clear ha hlen
 obtain ⟨f, hf⟩ : ∃ f : Nat -> Int × Int, (fun j => l.getD j (0, 0)) = f := ⟨_, rfl⟩
 have HF : Hid ((fun j => l.getD j (0, 0)) = f) := hf
 clear hf
 go_enter Tryz.func64, Tryz.ntmps64
 go_wp2_with (at_make; refine wpList_make_full _ rfl _ _ 63 rfl w.heap.size 166 i0 (.agg #[.int .i64 0, .int .i64 0]) 2 Tryz.underlying63 hi hz0 hz1 .i64 .i64 _ _ len rfl rfl ?m0 ?m1 ?m2 ?m3 ?m4 ?_)
 case m0 => simp
 case m1 => simp
 case m2 => rw [hz2]; omega
 case m3 => unfold maxLen; omega
 case m4 => exact Nat.le_refl _
 intro w1 hown hgrow
 have HO : Hid (OwnR w1 w.heap.size (.slice (some ⟨w.heap.size, 0, none⟩) (fillR f 0 len).length len) (fillR f 0 len) /\ Below w.heap.size w w1) := by
  refine ⟨?_, (Below.refl _ _).grown hgrow (Nat.le_refl _) (fun j hj => by cases hj)⟩
  rw [fillR_zero]
  exact OwnR.of_made hown
 clear hown hgrow
 go_wp2_with fail
 go_loopw [4] (fun iv wr => ∃ k : Nat, k <= len /\ iv = .int .i64 k /\ Hid (OwnR wr w.heap.size (.slice (some ⟨w.heap.size, 0, none⟩) (fillR f k len).length len) (fillR f k len) /\ Below w.heap.size w wr)) (fun iv _ => len - (intOf iv).toNat)
 case atStart => exact ⟨0, Nat.zero_le _, rfl, HO.out⟩
 case round =>
  obtain ⟨k, hk, rfl, H⟩ := hrel
  clear HO
  have hfl := fillR_len f k len
  by_cases hkn : k < len
  ·obtain ⟨b, off, hao, hbB, hc1, hc2⟩ := HA.out.1 k (by rw [HA.out.2]; exact hkn)
   have hfk : l.getD k (0, 0) = f k := congrFun HF.out k
   rw [hfk] at hc1 hc2
   have u1 : wr.cell? ⟨b, off + k * 2, none⟩ = some (.int .i64 (f k).1) := (H.out.2.cell (p := ⟨b, off + k * 2, none⟩) (by show b < w.heap.size; omega)).trans hc1
   have u2 : wr.cell? ⟨b, off + k * 2 + 1, none⟩ = some (.int .i64 (f k).2) := (H.out.2.cell (p := ⟨b, off + k * 2 + 1, none⟩) (by show b < w.heap.size; omega)).trans hc2
   subst hao
   have HR := toRev_any (f k).1 (f k).2 wr
   have HN : Hid (∀ w3, Below wr.heap.size wr w3 -> OwnR ((w3.setCell ⟨w.heap.size, k * 2, none⟩ (.int .i64 (f k).1)).setCell ⟨w.heap.size, k * 2 + 1, none⟩ (.int .i64 (f k).2)) w.heap.size (.slice (some ⟨w.heap.size, 0, none⟩) (fillR f (k + 1) len).length len) (fillR f (k + 1) len) /\ Below w.heap.size w ((w3.setCell ⟨w.heap.size, k * 2, none⟩ (.int .i64 (f k).1)).setCell ⟨w.heap.size, k * 2 + 1, none⟩ (.int .i64 (f k).2))) := fun w3 hb => by
    refine ⟨?_, Below.setCell (p := ⟨w.heap.size, k * 2 + 1, none⟩) (Below.setCell (p := ⟨w.heap.size, k * 2, none⟩) (H.out.2.trans (hb.mono H.out.2.size)) (Nat.le_refl _) _) (Nat.le_refl _) _⟩
    have := (H.out.1.stays hb).set k (f k)
    rwa [fillR_set f k _ hkn] at this
   have HC : Hid (∀ w3, Below wr.heap.size wr w3 -> (∀ j, w3.frozen? ⟨w.heap.size, j, none⟩ = false) /\ ∃ x y, w3.cell? ⟨w.heap.size, k * 2, none⟩ = some (.int .i64 x) /\ w3.cell? ⟨w.heap.size, k * 2 + 1, none⟩ = some (.int .i64 y)) := fun w3 hb =>
    ⟨fun j => (H.out.1.stays hb).frozen j, _, _, (H.out.1.stays hb).cell (j := k) (by rw [fillR_len]; exact hkn)⟩
   clear hfk H hfl hc1 hc2 hbB
   generalize (f k).1 = x at *
   generalize (f k).2 = y at *
   have hki : (k : Int) < (len : Int) := by omega
   have hk0 : (0 : Int) <= (k : Int) := by omega
   go_wp2_with fail
   refine HR.mono ?_
   rintro e w3 ⟨rfl, hb3⟩
   obtain ⟨fz, x0, y0, d0, d1⟩ := HC.out w3 hb3
   have HN3 := HN.out w3 hb3
   clear HN HC hb3 u1 u2 HR
   have HN : Hid _ := HN3
   clear HN3
   go_wp2_with fail
   go_roundw
   case rel => exact ⟨k + 1, by omega, by go_num, HN.out⟩
   case measure => simp [intOf]; omega
  ·have hkl : k = len := by omega
   subst hkl
   have HE : Hid (fillR f k k = l) := by
    rw [<- HF.out, <- HA.out.2]
    exact fillR_all l
   go_wp2
   go_ret
   refine ⟨_, rfl, ?_, H.out.2⟩
   have h := H.out.1
   rw [HE.out, HA.out.2] at h
   exact h
theorem szRevS_any (a0 : Option Addr) (len cap : Nat) (left : Int) (w : World) (hm : len <= 9223372036854775807) (h0 : 0 <= left) (hl : left <= 1048576) :
  Calls Tryz.prog 62 #[.slice a0 len cap, .int .i64 left] w fun e w' => e = .returned (.int .i64 (if (len : Int) <= left then left - (len : Int) else -1)) /\ Below w.heap.size w w' := by
 have w1 : IntKind.i64.wrap (left - (len : Int)) = left - (len : Int) := by rw [IntKind.wrap_i64]; omega
 by_cases h : (len : Int) <= left
 ·have hneg : ¬ left - (len : Int) < 0 := by omega
  rw [if_pos h]
  go_enter Tryz.func62, Tryz.ntmps62
  go_wp2
  go_ret
  exact ⟨rfl, Below.refl _ _⟩
 ·have hneg : left - (len : Int) < 0 := by omega
  rw [if_neg h]
  go_enter Tryz.func62, Tryz.ntmps62
  go_wp2
  go_ret
  exact ⟨rfl, Below.refl _ _⟩
theorem eqRev_same (s r : Int) (w : World) : Calls Tryz.prog 115 #[.agg #[.int .i64 s, .int .i64 r], .agg #[.int .i64 s, .int .i64 r]] w fun e w' => e = .returned (.bool true) /\ Below w.heap.size w w' := by
 have e0 := size_alloc w (Obj.cells #[.int .i64 s, .int .i64 r] 166)
 go_enter Tryz.func115, Tryz.ntmps115
 go_wp2_with fail
 go_ret
 exact ⟨rfl, ((Below.refl _ _).alloc (Nat.le_refl _) _).alloc (by omega) _⟩
theorem eqRevS_same (a b : Value) (l : List (Int × Int)) (w : World) (hl : l.length <= 1000000000) (ha : RevAt w a l) (hb : RevAt w b l) : Calls Tryz.prog 67 #[a, b] w fun e w' => e = .returned (.bool true) /\ Below w.heap.size w w' := by
 obtain ⟨ao, ca, rfl, hca⟩ := ha
 obtain ⟨bo, cb, rfl, hcb⟩ := hb
 have HA : Hid (∀ j, j < l.length -> ∃ g, ao = some ⟨g, 0, none⟩ /\ g < w.heap.size /\ w.cell? ⟨g, j * 2, none⟩ = some (.int .i64 (l.getD j (0, 0)).1) /\ w.cell? ⟨g, j * 2 + 1, none⟩ = some (.int .i64 (l.getD j (0, 0)).2)) := hca
 have HB : Hid (∀ j, j < l.length -> ∃ g, bo = some ⟨g, 0, none⟩ /\ g < w.heap.size /\ w.cell? ⟨g, j * 2, none⟩ = some (.int .i64 (l.getD j (0, 0)).1) /\ w.cell? ⟨g, j * 2 + 1, none⟩ = some (.int .i64 (l.getD j (0, 0)).2)) := hcb
 clear hca hcb
 go_enter Tryz.func67, Tryz.ntmps67
 go_wp2_with fail
 go_loopw [5] (fun iv wr => ∃ k : Nat, k <= l.length /\ iv = .int .i64 k /\ Hid (Below w.heap.size w wr)) (fun iv _ => l.length - (intOf iv).toNat)
 case atStart => exact ⟨0, Nat.zero_le _, rfl, Below.refl _ _⟩
 case round =>
  obtain ⟨k, hk, rfl, HW⟩ := hrel
  by_cases hlt : k < l.length
  ·obtain ⟨ga, hao, hga, ha1, ha2⟩ := HA.out k hlt
   obtain ⟨gb, hbo, hgb, hb1, hb2⟩ := HB.out k hlt
   have hbel := HW.out
   have c1 : wr.cell? ⟨ga, k * 2, none⟩ = some (.int .i64 (l.getD k (0, 0)).1) := (hbel.cell (p := ⟨ga, k * 2, none⟩) hga).trans ha1
   have c2 : wr.cell? ⟨ga, k * 2 + 1, none⟩ = some (.int .i64 (l.getD k (0, 0)).2) := (hbel.cell (p := ⟨ga, k * 2 + 1, none⟩) hga).trans ha2
   have c3 : wr.cell? ⟨gb, k * 2, none⟩ = some (.int .i64 (l.getD k (0, 0)).1) := (hbel.cell (p := ⟨gb, k * 2, none⟩) hgb).trans hb1
   have c4 : wr.cell? ⟨gb, k * 2 + 1, none⟩ = some (.int .i64 (l.getD k (0, 0)).2) := (hbel.cell (p := ⟨gb, k * 2 + 1, none⟩) hgb).trans hb2
   generalize (l.getD k (0, 0)).1 = x at *
   generalize (l.getD k (0, 0)).2 = y at *
   have HQ : Hid (ga < w.heap.size /\ gb < w.heap.size) := ⟨hga, hgb⟩
   subst hao hbo
   clear ha1 ha2 hb1 hb2 hbel hga hgb
   have hki : (k : Int) < (l.length : Int) := by omega
   have hk0 : (0 : Int) <= (k : Int) := by omega
   have HR := eqRev_same x y wr.drew
   have hcs : wr.cell? ⟨ga, k * 2, none⟩ = some (.int .i64 x) /\ wr.cell? ⟨ga, k * 2 + 1, none⟩ = some (.int .i64 y) /\ wr.cell? ⟨gb, k * 2, none⟩ = some (.int .i64 x) /\ wr.cell? ⟨gb, k * 2 + 1, none⟩ = some (.int .i64 y) := ⟨c1, c2, c3, c4⟩
   have HS : Hid (∀ w3, Below wr.drew.heap.size wr.drew w3 -> w3.cell? ⟨ga, k * 2, none⟩ = some (.int .i64 x) /\ w3.cell? ⟨ga, k * 2 + 1, none⟩ = some (.int .i64 y) /\ w3.cell? ⟨gb, k * 2, none⟩ = some (.int .i64 x) /\ w3.cell? ⟨gb, k * 2 + 1, none⟩ = some (.int .i64 y)) := fun w3 hb => by
    have e : wr.drew.heap.size = wr.heap.size := rfl
    have h1 := HW.out.size
    have h2 := HQ.out
    exact ⟨(hb.cell (p := ⟨ga, k * 2, none⟩) (by show ga < _; omega)).trans c1, (hb.cell (p := ⟨ga, k * 2 + 1, none⟩) (by show ga < _; omega)).trans c2, (hb.cell (p := ⟨gb, k * 2, none⟩) (by show gb < _; omega)).trans c3, (hb.cell (p := ⟨gb, k * 2 + 1, none⟩) (by show gb < _; omega)).trans c4⟩
   go_wp2_with fail
   go_region_held3 (fun W => W.cell? ⟨ga, k * 2, none⟩ = some (.int .i64 x) /\ W.cell? ⟨ga, k * 2 + 1, none⟩ = some (.int .i64 y) /\ W.cell? ⟨gb, k * 2, none⟩ = some (.int .i64 x) /\ W.cell? ⟨gb, k * 2 + 1, none⟩ = some (.int .i64 y)) (first | exact hc3 | exact hcs) ((go_at_call 115; refine HR.mono ?_; rintro e w3 ⟨rfl, hb3⟩; have hc3 := HS.out w3 hb3))
   all_goals (
    go_wp2_with fail
    exact ⟨⟨k + 1, by omega, by go_num, HW.out.drew.trans (hb3.mono HW.out.drew.size)⟩, by simp [intOf]; omega⟩)
  ·go_wp2_with fail
   go_ret
   exact ⟨rfl, HW.out⟩
theorem toCrl_any (c : Cl) (v : Value) (B : Nat) (w : World) (hl : c.revs.length <= 1048576) (hB : B <= w.heap.size) (ha : ArgL B w v c) :
  Calls Tryz.prog 21 #[v] w fun e w' => ∃ u, e = .returned u /\ OwnL w' w.heap.size u c /\ Below w.heap.size w w' := by
 obtain ⟨pa, pc, rfl, h1⟩ := ha
 have HA : Hid (ArgR B w pa c.revs /\ c.revs.length <= 1048576) := ⟨h1, hl⟩
 clear h1 hl
 unfold clV
 go_enter Tryz.func21, Tryz.ntmps21
 go_wp2_with fail
 obtain ⟨W3, hW3⟩ : ∃ W, W = ((w.alloc (Obj.cells #[.string c.issuer, .int .i64 c.num, .int .i64 c.ths, .int .i64 c.nxt, .int .i64 c.bas, .slice pa c.revs.length pc, .string c.sig] 60)).alloc (Obj.cells #[.string ⟨#[]⟩, .int .i64 0, .int .i64 0, .int .i64 0, .int .i64 0, .slice none 0 0, .string ⟨#[]⟩] 65)).alloc (Obj.cells #[.string c.issuer, .int .i64 c.num, .int .i64 c.ths, .int .i64 c.nxt, .int .i64 c.bas, .slice none 0 0, .string ⟨#[]⟩] 65) := ⟨_, rfl⟩
 change Calls _ _ _ (((w.alloc (Obj.cells #[.string c.issuer, .int .i64 c.num, .int .i64 c.ths, .int .i64 c.nxt, .int .i64 c.bas, .slice pa c.revs.length pc, .string c.sig] 60)).alloc (Obj.cells #[.string ⟨#[]⟩, .int .i64 0, .int .i64 0, .int .i64 0, .int .i64 0, .slice none 0 0, .string ⟨#[]⟩] 65)).alloc (Obj.cells #[.string c.issuer, .int .i64 c.num, .int .i64 c.ths, .int .i64 c.nxt, .int .i64 c.bas, .slice none 0 0, .string ⟨#[]⟩] 65)) _
 rw [<- hW3]
 have e0 : (w.alloc (Obj.cells #[.string c.issuer, .int .i64 c.num, .int .i64 c.ths, .int .i64 c.nxt, .int .i64 c.bas, .slice pa c.revs.length pc, .string c.sig] 60)).heap.size = w.heap.size + 1 := Array.size_push _
 have e1 : ((w.alloc (Obj.cells #[.string c.issuer, .int .i64 c.num, .int .i64 c.ths, .int .i64 c.nxt, .int .i64 c.bas, .slice pa c.revs.length pc, .string c.sig] 60)).alloc (Obj.cells #[.string ⟨#[]⟩, .int .i64 0, .int .i64 0, .int .i64 0, .int .i64 0, .slice none 0 0, .string ⟨#[]⟩] 65)).heap.size = w.heap.size + 1 + 1 := by rw [size_alloc, e0]
 have G0 : Hid ((Blk W3 w.heap.size 60 #[.string c.issuer, .int .i64 c.num, .int .i64 c.ths, .int .i64 c.nxt, .int .i64 c.bas, .slice pa c.revs.length pc, .string c.sig] /\ Blk W3 (w.heap.size + 1) 65 #[.string ⟨#[]⟩, .int .i64 0, .int .i64 0, .int .i64 0, .int .i64 0, .slice none 0 0, .string ⟨#[]⟩] /\ Blk W3 (w.heap.size + 1 + 1) 65 #[.string c.issuer, .int .i64 c.num, .int .i64 c.ths, .int .i64 c.nxt, .int .i64 c.bas, .slice none 0 0, .string ⟨#[]⟩] /\ Below w.heap.size w W3) /\ w.heap.size + 1 + 1 + 1 <= W3.heap.size) := by
  rw [hW3]
  refine ⟨⟨((Blk.new w _ _).alloc _).alloc _, ?_, ?_, (((Below.refl _ _).alloc (Nat.le_refl _) _).alloc (by rw [e0]; omega) _).alloc (by rw [e1]; omega) _⟩, by rw [size_alloc, e1]; omega⟩
  ·have h := (Blk.new (w.alloc (Obj.cells #[.string c.issuer, .int .i64 c.num, .int .i64 c.ths, .int .i64 c.nxt, .int .i64 c.bas, .slice pa c.revs.length pc, .string c.sig] 60)) 65 #[.string ⟨#[]⟩, .int .i64 0, .int .i64 0, .int .i64 0, .int .i64 0, .slice none 0 0, .string ⟨#[]⟩]).alloc (Obj.cells #[.string c.issuer, .int .i64 c.num, .int .i64 c.ths, .int .i64 c.nxt, .int .i64 c.bas, .slice none 0 0, .string ⟨#[]⟩] 65)
   rw [e0] at h
   exact h
  ·have h := Blk.new ((w.alloc (Obj.cells #[.string c.issuer, .int .i64 c.num, .int .i64 c.ths, .int .i64 c.nxt, .int .i64 c.bas, .slice pa c.revs.length pc, .string c.sig] 60)).alloc (Obj.cells #[.string ⟨#[]⟩, .int .i64 0, .int .i64 0, .int .i64 0, .int .i64 0, .slice none 0 0, .string ⟨#[]⟩] 65)) 65 #[.string c.issuer, .int .i64 c.num, .int .i64 c.ths, .int .i64 c.nxt, .int .i64 c.bas, .slice none 0 0, .string ⟨#[]⟩]
   rw [e1] at h
   exact h
 clear hW3 e0 e1
 have wd1 : w.heap.size ≠ w.heap.size + 1 + 1 := by omega
 have wd2 : w.heap.size + 1 ≠ w.heap.size + 1 + 1 := by omega
 refine (toRevS_any pa c.revs c.revs.length pc B W3 rfl HA.out.2 (Nat.le_trans hB G0.out.1.2.2.2.size) (HA.out.1.below (G0.out.1.2.2.2.mono hB))).mono ?_
 rintro r u2 ⟨p, rfl, op, hb⟩
 have F2 : Hid ((Blk u2 w.heap.size 60 #[.string c.issuer, .int .i64 c.num, .int .i64 c.ths, .int .i64 c.nxt, .int .i64 c.bas, .slice pa c.revs.length pc, .string c.sig] /\ Blk u2 (w.heap.size + 1) 65 #[.string ⟨#[]⟩, .int .i64 0, .int .i64 0, .int .i64 0, .int .i64 0, .slice none 0 0, .string ⟨#[]⟩] /\ Blk u2 (w.heap.size + 1 + 1) 65 #[.string c.issuer, .int .i64 c.num, .int .i64 c.ths, .int .i64 c.nxt, .int .i64 c.bas, .slice none 0 0, .string ⟨#[]⟩] /\ Below w.heap.size w u2) /\ w.heap.size + 1 + 1 + 1 <= u2.heap.size /\ OwnR u2 (w.heap.size + 1 + 1 + 1) p c.revs) := by
  have hz := G0.out.2
  exact ⟨⟨G0.out.1.1.below hb (by omega), G0.out.1.2.1.below hb (by omega), G0.out.1.2.2.1.below hb (by omega), G0.out.1.2.2.2.trans (hb.mono G0.out.1.2.2.2.size)⟩, Nat.le_trans hz hb.size, op.base hz⟩
 clear op hb G0
 have fr := fun j => F2.out.1.2.2.1.free j
 have f1 := fun j => F2.out.1.2.1.free j
 obtain ⟨qp, mp, hsp⟩ : ∃ ao cap, p = .slice ao c.revs.length cap := by obtain ⟨ao, cap, h, _⟩ := F2.out.2.2.at; exact ⟨ao, cap, h⟩
 obtain ⟨lp, hlp⟩ := zE (c.revs.length)
 rw [hlp] at hsp
 clear hlp
 subst hsp
 have ca : u2.cell? ⟨w.heap.size, 6, none⟩ = some (.string c.sig) := F2.out.1.1.cell 6
 have c10 : u2.cell? ⟨w.heap.size + 1, 0, none⟩ = some (.string ⟨#[]⟩) := F2.out.1.2.1.cell 0
 have c20 : u2.cell? ⟨w.heap.size + 1 + 1, 0, none⟩ = some (.string c.issuer) := F2.out.1.2.2.1.cell 0
 have c11 : u2.cell? ⟨w.heap.size + 1, 1, none⟩ = some (.int .i64 0) := F2.out.1.2.1.cell 1
 have c21 : u2.cell? ⟨w.heap.size + 1 + 1, 1, none⟩ = some (.int .i64 c.num) := F2.out.1.2.2.1.cell 1
 have c12 : u2.cell? ⟨w.heap.size + 1, 2, none⟩ = some (.int .i64 0) := F2.out.1.2.1.cell 2
 have c22 : u2.cell? ⟨w.heap.size + 1 + 1, 2, none⟩ = some (.int .i64 c.ths) := F2.out.1.2.2.1.cell 2
 have c13 : u2.cell? ⟨w.heap.size + 1, 3, none⟩ = some (.int .i64 0) := F2.out.1.2.1.cell 3
 have c23 : u2.cell? ⟨w.heap.size + 1 + 1, 3, none⟩ = some (.int .i64 c.nxt) := F2.out.1.2.2.1.cell 3
 have c14 : u2.cell? ⟨w.heap.size + 1, 4, none⟩ = some (.int .i64 0) := F2.out.1.2.1.cell 4
 have c24 : u2.cell? ⟨w.heap.size + 1 + 1, 4, none⟩ = some (.int .i64 c.bas) := F2.out.1.2.2.1.cell 4
 have c15 : u2.cell? ⟨w.heap.size + 1, 5, none⟩ = some (.slice none 0 0) := F2.out.1.2.1.cell 5
 have c25 : u2.cell? ⟨w.heap.size + 1 + 1, 5, none⟩ = some (.slice none 0 0) := F2.out.1.2.2.1.cell 5
 have c16 : u2.cell? ⟨w.heap.size + 1, 6, none⟩ = some (.string ⟨#[]⟩) := F2.out.1.2.1.cell 6
 have c26 : u2.cell? ⟨w.heap.size + 1 + 1, 6, none⟩ = some (.string ⟨#[]⟩) := F2.out.1.2.2.1.cell 6
 go_wp2_with fail
 refine bodyPost_ret (v := clV c (.slice qp lp mp)) (by simp [results, Tryz.results21, go_sem, clV, c10, c11, c12, c13, c14, c15, c16]) rfl ⟨_, rfl, ⟨_, rfl, (F2.out.2.2.block ?far).base (by omega)⟩, ?bel⟩
 case far =>
  intro b hb
  iterate 9 rw [heap_setCell_other _ _ _ _ (by first | (show b ≠ w.heap.size + 1; omega) | (show b ≠ w.heap.size + 1 + 1; omega))]
 case bel =>
  iterate 9 refine Below.setCell ?_ (by first | (show w.heap.size <= w.heap.size + 1; omega) | (show w.heap.size <= w.heap.size + 1 + 1; omega)) _
  exact F2.out.1.2.2.2
theorem szCrl_any (c : Cl) (v : Value) (left : Int) (w : World) (hwd : WdL c) (h0 : 0 <= left) (hl : left <= 1048576) (ha : ArgL w.heap.size w v c) :
  Calls Tryz.prog 19 #[v, .int .i64 left] w fun e w' => e = .returned (.int .i64 (szL c left)) /\ Below w.heap.size w w' := by
 obtain ⟨pa, pc, rfl, h1⟩ := ha
 obtain ⟨_, _, hs, hpl⟩ := hwd
 have s1 : c.issuer.size <= 9223372036854775807 := hs _ (by simp)
 have s7 : c.sig.size <= 9223372036854775807 := hs _ (by simp)
 clear h1 hs
 have HW : Hid ((wtL c : Int) = c.issuer.size + c.revs.length + c.sig.size) := by show (wtL c : Int) = _; unfold wtL; omega
 unfold clV
 obtain ⟨r1, hr1⟩ : ∃ r : Int, r = left - (c.issuer.size : Int) := ⟨_, rfl⟩
 have wr1 : IntKind.i64.wrap (left - (c.issuer.size : Int)) = r1 := by rw [IntKind.wrap_i64]; omega
 by_cases g1 : r1 < 0
 ·have HF : Hid (szL c left = -1) := by show szL c left = _; have hw := HW.out; unfold szL; rw [if_neg (by omega)]
  clear HW hr1
  go_enter Tryz.func19, Tryz.ntmps19
  go_wp2_with fail
  go_ret
  exact ⟨by rw [HF.out]; rfl, (Below.refl _ _).alloc (Nat.le_refl _) _⟩
 obtain ⟨r2, hr2⟩ : ∃ r : Int, r = if (c.revs.length : Int) <= r1 then r1 - (c.revs.length : Int) else -1 := ⟨_, rfl⟩
 have Z2 : Hid (∀ W, Below w.heap.size w W -> Calls Tryz.prog 62 #[.slice pa c.revs.length pc, .int .i64 r1] W fun e w' => e = .returned (.int .i64 r2) /\ Below W.heap.size W w') := fun W hb => by rw [hr2]; exact szRevS_any pa c.revs.length pc r1 W hpl (by omega) (by omega)
 by_cases g2 : r2 < 0
 ·have HF : Hid (szL c left = -1) := by show szL c left = _; have hw := HW.out; unfold szL; rw [if_neg (by split at hr2 <;> omega)]
  clear HW hr1 hr2
  go_enter Tryz.func19, Tryz.ntmps19
  go_wp2_with fail
  obtain ⟨V, hV⟩ : ∃ V, V = w.alloc (Obj.cells #[.string c.issuer, .int .i64 c.num, .int .i64 c.ths, .int .i64 c.nxt, .int .i64 c.bas, .slice pa c.revs.length pc, .string c.sig] 60) := ⟨_, rfl⟩
  rw [<- hV]
  have G : Hid (Blk V w.heap.size 60 #[.string c.issuer, .int .i64 c.num, .int .i64 c.ths, .int .i64 c.nxt, .int .i64 c.bas, .slice pa c.revs.length pc, .string c.sig] /\ Below w.heap.size w V) := by rw [hV]; exact ⟨Blk.new w _ _, (Below.refl _ _).alloc (Nat.le_refl _) _⟩
  have hsz : w.heap.size < V.heap.size := G.out.1.lt
  clear hV
  refine (Z2.out V G.out.2).mono ?_
  rintro e V2 ⟨rfl, hb⟩
  have G2 : Hid (Blk V2 w.heap.size 60 #[.string c.issuer, .int .i64 c.num, .int .i64 c.ths, .int .i64 c.nxt, .int .i64 c.bas, .slice pa c.revs.length pc, .string c.sig] /\ Below w.heap.size w V2) := ⟨G.out.1.below hb hsz, G.out.2.trans (hb.mono G.out.2.size)⟩
  clear hb G hsz
  go_wp2_with fail
  go_ret
  exact ⟨by rw [HF.out]; rfl, G2.out.2⟩
 have hq2 : r2 = r1 - (c.revs.length : Int) := by split at hr2 <;> omega
 clear hr2
 have hr2 := hq2
 clear hq2
 obtain ⟨r3, hr3⟩ : ∃ r : Int, r = r2 - (c.sig.size : Int) := ⟨_, rfl⟩
 have wr3 : IntKind.i64.wrap (r2 - (c.sig.size : Int)) = r3 := by rw [IntKind.wrap_i64]; omega
 by_cases g3 : r3 < 0
 ·have HF : Hid (szL c left = -1) := by show szL c left = _; have hw := HW.out; unfold szL; rw [if_neg (by omega)]
  clear HW hr1 hr2 hr3
  go_enter Tryz.func19, Tryz.ntmps19
  go_wp2_with fail
  obtain ⟨V, hV⟩ : ∃ V, V = w.alloc (Obj.cells #[.string c.issuer, .int .i64 c.num, .int .i64 c.ths, .int .i64 c.nxt, .int .i64 c.bas, .slice pa c.revs.length pc, .string c.sig] 60) := ⟨_, rfl⟩
  rw [<- hV]
  have G : Hid (Blk V w.heap.size 60 #[.string c.issuer, .int .i64 c.num, .int .i64 c.ths, .int .i64 c.nxt, .int .i64 c.bas, .slice pa c.revs.length pc, .string c.sig] /\ Below w.heap.size w V) := by rw [hV]; exact ⟨Blk.new w _ _, (Below.refl _ _).alloc (Nat.le_refl _) _⟩
  have hsz : w.heap.size < V.heap.size := G.out.1.lt
  clear hV
  refine (Z2.out V G.out.2).mono ?_
  rintro e V2 ⟨rfl, hb⟩
  have G2 : Hid (Blk V2 w.heap.size 60 #[.string c.issuer, .int .i64 c.num, .int .i64 c.ths, .int .i64 c.nxt, .int .i64 c.bas, .slice pa c.revs.length pc, .string c.sig] /\ Below w.heap.size w V2) := ⟨G.out.1.below hb hsz, G.out.2.trans (hb.mono G.out.2.size)⟩
  clear hb G hsz
  have ca : V2.cell? ⟨w.heap.size, 6, none⟩ = some (.string c.sig) := G2.out.1.cell 6
  go_wp2_with fail
  go_ret
  exact ⟨by rw [HF.out]; rfl, G2.out.2⟩
 have HF : Hid (szL c left = r3) := by show szL c left = _; have hw := HW.out; unfold szL; rw [if_pos (by omega)]; omega
 clear HW hr1 hr2 hr3
 go_enter Tryz.func19, Tryz.ntmps19
 go_wp2_with fail
 obtain ⟨V, hV⟩ : ∃ V, V = w.alloc (Obj.cells #[.string c.issuer, .int .i64 c.num, .int .i64 c.ths, .int .i64 c.nxt, .int .i64 c.bas, .slice pa c.revs.length pc, .string c.sig] 60) := ⟨_, rfl⟩
 rw [<- hV]
 have G : Hid (Blk V w.heap.size 60 #[.string c.issuer, .int .i64 c.num, .int .i64 c.ths, .int .i64 c.nxt, .int .i64 c.bas, .slice pa c.revs.length pc, .string c.sig] /\ Below w.heap.size w V) := by rw [hV]; exact ⟨Blk.new w _ _, (Below.refl _ _).alloc (Nat.le_refl _) _⟩
 have hsz : w.heap.size < V.heap.size := G.out.1.lt
 clear hV
 refine (Z2.out V G.out.2).mono ?_
 rintro e V2 ⟨rfl, hb⟩
 have G2 : Hid (Blk V2 w.heap.size 60 #[.string c.issuer, .int .i64 c.num, .int .i64 c.ths, .int .i64 c.nxt, .int .i64 c.bas, .slice pa c.revs.length pc, .string c.sig] /\ Below w.heap.size w V2) := ⟨G.out.1.below hb hsz, G.out.2.trans (hb.mono G.out.2.size)⟩
 clear hb G hsz
 have ca : V2.cell? ⟨w.heap.size, 6, none⟩ = some (.string c.sig) := G2.out.1.cell 6
 go_wp2_with fail
 go_ret
 exact ⟨by rw [HF.out]; rfl, G2.out.2⟩
theorem eqCrl_same (c : Cl) (a b : Value) (w : World) (hl : c.revs.length <= 1000000000) (ha : ClAt w a c) (hb : ClAt w b c) :
  Calls Tryz.prog 23 #[a, b] w fun e w' => e = .returned (.bool true) /\ Below w.heap.size w w' := by
 obtain ⟨pv, rfl, h1⟩ := ha
 obtain ⟨pu, rfl, k1⟩ := hb
 have HQ : Hid (∀ W, Below w.heap.size w W -> Calls Tryz.prog 67 #[pv, pu] W (fun e w' => e = .returned (.bool true) /\ Below W.heap.size W w')) := fun W hb => eqRevS_same pv pu c.revs W hl (h1.below hb) (k1.below hb)
 obtain ⟨lp, hlp⟩ := zE (c.revs.length)
 obtain ⟨pa, pc, hpa, _⟩ := h1
 obtain ⟨pb, qc, hpb, _⟩ := k1
 rw [hlp] at hpa hpb
 subst hpa hpb
 clear hlp hl
 unfold clV
 go_enter Tryz.func23, Tryz.ntmps23
 go_wp2_with fail
 obtain ⟨V, hV⟩ : ∃ V, V = (w.alloc (Obj.cells #[.string c.issuer, .int .i64 c.num, .int .i64 c.ths, .int .i64 c.nxt, .int .i64 c.bas, .slice pa lp pc, .string c.sig] 65)).alloc (Obj.cells #[.string c.issuer, .int .i64 c.num, .int .i64 c.ths, .int .i64 c.nxt, .int .i64 c.bas, .slice pb lp qc, .string c.sig] 65) := ⟨_, rfl⟩
 rw [<- hV]
 have G : Hid (Blk V w.heap.size 65 #[.string c.issuer, .int .i64 c.num, .int .i64 c.ths, .int .i64 c.nxt, .int .i64 c.bas, .slice pa lp pc, .string c.sig] /\ Blk V (w.heap.size + 1) 65 #[.string c.issuer, .int .i64 c.num, .int .i64 c.ths, .int .i64 c.nxt, .int .i64 c.bas, .slice pb lp qc, .string c.sig] /\ Below w.heap.size w V /\ w.heap.size + 1 < V.heap.size) := by
  have e0 : (w.alloc (Obj.cells #[.string c.issuer, .int .i64 c.num, .int .i64 c.ths, .int .i64 c.nxt, .int .i64 c.bas, .slice pa lp pc, .string c.sig] 65)).heap.size = w.heap.size + 1 := Array.size_push _
  have h := Blk.new (w.alloc (Obj.cells #[.string c.issuer, .int .i64 c.num, .int .i64 c.ths, .int .i64 c.nxt, .int .i64 c.bas, .slice pa lp pc, .string c.sig] 65)) 65 #[.string c.issuer, .int .i64 c.num, .int .i64 c.ths, .int .i64 c.nxt, .int .i64 c.bas, .slice pb lp qc, .string c.sig]
  rw [e0] at h
  rw [hV]
  exact ⟨(Blk.new w _ _).alloc _, h, ((Below.refl _ _).alloc (Nat.le_refl _) _).alloc (by rw [e0]; omega) _, by rw [size_alloc, e0]; omega⟩
 clear hV
 refine (HQ.out V G.out.2.2.1).mono ?_
 rintro e V2 ⟨rfl, hb⟩
 have G2 : Hid (Blk V2 w.heap.size 65 #[.string c.issuer, .int .i64 c.num, .int .i64 c.ths, .int .i64 c.nxt, .int .i64 c.bas, .slice pa lp pc, .string c.sig] /\ Blk V2 (w.heap.size + 1) 65 #[.string c.issuer, .int .i64 c.num, .int .i64 c.ths, .int .i64 c.nxt, .int .i64 c.bas, .slice pb lp qc, .string c.sig] /\ Below w.heap.size w V2 /\ w.heap.size + 1 < V2.heap.size) := ⟨G.out.1.below hb (by have := G.out.2.2.2; omega), G.out.2.1.below hb G.out.2.2.2, G.out.2.2.1.trans (hb.mono G.out.2.2.1.size), Nat.lt_of_lt_of_le G.out.2.2.2 hb.size⟩
 clear hb G
 have ca : V2.cell? ⟨w.heap.size, 6, none⟩ = some (.string c.sig) := G2.out.1.cell 6
 have cb : V2.cell? ⟨w.heap.size + 1, 6, none⟩ = some (.string c.sig) := G2.out.2.1.cell 6
 go_wp2_with fail
 go_ret
 exact ⟨rfl, G2.out.2.2.1⟩
def fpL (v : Value) : List Nat := match v with
 | .agg a => (a.getD 5 (.slice none 0 0)).ownBlock.toList
 | _ => []
theorem fpL_mem {c : Cl} {p : Value} {g : Nat} : g ∈ fpL (clV c p) ↔ p.ownBlock = some g := by
 show g ∈ p.ownBlock.toList ↔ _
 simp [Option.mem_toList]
theorem fpL_lt {w : World} {base : Nat} {v : Value} {c : Cl} (h : OwnL w base v c) : ∀ b ∈ fpL v, base <= b /\ b < w.heap.size := by
 obtain ⟨p, rfl, h1⟩ := h
 intro b hb
 exact World.ownsRow.lt h1 b (fpL_mem.1 hb)
end Go.Proofs.YtabfamhaihnccaaGreat
