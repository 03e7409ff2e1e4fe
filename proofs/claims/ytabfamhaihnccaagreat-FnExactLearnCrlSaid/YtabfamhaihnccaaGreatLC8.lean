/-
  Texts of the proof.
-/
import Derived.Laws.OwnMore
import Derived.Deep.RegionHeld3
import Derived.Test.YtabfamhaihnccaaGreatLC6
set_option linter.unusedVariables false
set_option linter.unusedSimpArgs false
set_option maxRecDepth 100000
set_option maxHeartbeats 25600000
namespace Go.Proofs.YtabfamhaihnccaaGreat
open Go.RowKit
def cellsR (l : List (Int × Int)) : List Value := l.flatMap fun p => [zI p.1, zI p.2]
theorem cellsR_cons (x : Int × Int) (l : List (Int × Int)) : cellsR (x :: l) = zI x.1 :: zI x.2 :: cellsR l := rfl
theorem cellsR_len : ∀ l : List (Int × Int), (cellsR l).length = l.length * 2
 | [] => rfl
 | x :: l => by
  rw [cellsR_cons];simp only [List.length_cons, cellsR_len l];omega
theorem cellsR_at : ∀ (l : List (Int × Int)) (j : Nat), j < l.length -> (cellsR l)[j * 2]? = some (zI (l.getD j (0, 0)).1) /\ (cellsR l)[j * 2 + 1]? = some (zI (l.getD j (0, 0)).2)
 | [], j, h => absurd h (Nat.not_lt_zero _)
 | x :: l, 0, _ => ⟨rfl, rfl⟩
 | x :: l, j + 1, h => by
  have ih := cellsR_at l j (by simpa using h);rw [cellsR_cons, show (j + 1) * 2 = j * 2 + 1 + 1 by omega];simpa using ih
theorem cellsR_set : ∀ (l : List (Int × Int)) (j : Nat) (x : Int × Int), ((cellsR l).set (j * 2) (zI x.1)).set (j * 2 + 1) (zI x.2) = cellsR (l.set j x)
 | [], j, x => by simp [cellsR]
 | y :: l, 0, x => rfl
 | y :: l, j + 1, x => by
  rw [List.set_cons_succ, cellsR_cons, cellsR_cons, <- cellsR_set l j x, show (j + 1) * 2 = j * 2 + 1 + 1 by omega];rfl
def RevAt (w : World) (v : Value) (l : List (Int × Int)) : Prop := ∃ ao cap, v = zS ao l.length cap /\ ∀ j, j < l.length -> ∃ g, ao = some ⟨g, 0, none⟩ /\ g < w.heap.size /\ w.cell? ⟨g, j * 2, none⟩ = some (zI (l.getD j (0, 0)).1) /\ w.cell? ⟨g, j * 2 + 1, none⟩ = some (zI (l.getD j (0, 0)).2)
theorem RevAt.below {w w' : World} {v : Value} {l : List (Int × Int)} (h : RevAt w v l) (hb : zW w w') : RevAt w' v l := by
 obtain ⟨ao, cap, hv, h⟩ := h;refine ⟨ao, cap, hv, fun j hj => ?_⟩;obtain ⟨g, hg, hlt, h1, h2⟩ := h j hj;exact ⟨g, hg, Nat.lt_of_lt_of_le hlt hb.size, (hb.cell (p := ⟨g, j * 2, none⟩) hlt).trans h1, (hb.cell (p := ⟨g, j * 2 + 1, none⟩) hlt).trans h2⟩
def OwnR (w : World) (base : Nat) (v : Value) (l : List (Int × Int)) : Prop := w.ownsRow base 166 2 v l.length (cellsR l)
theorem OwnR.cell {w : World} {base g cap : Nat} {l : List (Int × Int)} (h : OwnR w base (zS (some ⟨g, 0, none⟩) l.length cap) l) {j : Nat} (hj : j < l.length) : w.cell? ⟨g, j * 2, none⟩ = some (zI (l.getD j (0, 0)).1) /\ w.cell? ⟨g, j * 2 + 1, none⟩ = some (zI (l.getD j (0, 0)).2) := by
 rw [World.ownsRow.cellAt h (j * 2) (by omega), World.ownsRow.cellAt h (j * 2 + 1) (by omega)];exact cellsR_at l j hj
theorem OwnR.at {w : World} {base : Nat} {v : Value} {l : List (Int × Int)} (h : OwnR w base v l) : RevAt w v l := by
 have hc := fun g (hg : v.ownBlock = some g) => (World.ownsRow.lt h g hg).2
 have h' := h;obtain ⟨h1, h2⟩ := h
 rcases h2 with ⟨rfl, h0⟩ | ⟨g, cap, cur, rfl, hbg, hg, r⟩
 ·exact ⟨none, 0, by rw [h0], fun j hj => by omega⟩
 ·exact ⟨some ⟨g, 0, none⟩, cap, rfl, fun j hj => ⟨g, rfl, hc g rfl, h'.cell hj⟩⟩
theorem OwnR.stays {w w' : World} {base : Nat} {v : Value} {l : List (Int × Int)} (h : OwnR w base v l) (hb : zW w w') : OwnR w' base v l := by
 obtain ⟨h1, h2⟩ := h;refine ⟨h1, ?_⟩
 rcases h2 with h2 | ⟨g, cap, cur, hv, hbg, hg, r⟩
 ·exact .inl h2
 ·have hlt : g < w.heap.size := by
   rcases Nat.lt_or_ge g w.heap.size with h | h
   ·exact h
   ·rw [Array.getElem?_eq_none h] at hg; cases hg
  exact .inr ⟨g, cap, cur, hv, hbg, by rw [hb.block g hlt]; exact hg, r⟩
theorem OwnR.block {w w' : World} {b : Nat} {v : Value} {l : List (Int × Int)} (h : OwnR w b v l) (hh : ∀ g, b <= g -> w'.heap[g]? = w.heap[g]?) : OwnR w' b v l := by
 obtain ⟨h1, h2⟩ := h;refine ⟨h1, ?_⟩
 rcases h2 with h2 | ⟨g, cap, cur, hv, hbg, hg, r⟩
 ·exact .inl h2
 ·exact .inr ⟨g, cap, cur, hv, hbg, (hh g hbg).trans hg, r⟩
theorem OwnR.base {w : World} {b b' : Nat} {v : Value} {l : List (Int × Int)} (h : OwnR w b v l) (hb : b' <= b) : OwnR w b' v l := by
 obtain ⟨h1, h2⟩ := h;refine ⟨h1, ?_⟩
 rcases h2 with h2 | ⟨g, cap, cur, hv, hbg, r⟩
 ·exact .inl h2
 ·exact .inr ⟨g, cap, cur, hv, Nat.le_trans hb hbg, r⟩
theorem OwnR.shape {w : World} {base : Nat} {v : Value} {l : List (Int × Int)} (h : OwnR w base v l) : ∃ ao cap, v = zS ao l.length cap /\ (0 < l.length -> ∃ g, ao = some ⟨g, 0, none⟩) /\ l.length <= cap /\ cap <= maxLen := by
 rcases h.2 with ⟨h1, h0⟩ | ⟨g, cap, cur, hv, _, _, hn, hm, _⟩
 ·exact ⟨none, 0, by rw [h1, h0], fun h => by omega, by omega, Nat.zero_le _⟩
 ·exact ⟨some ⟨g, 0, none⟩, cap, hv, fun _ => ⟨g, rfl⟩, hn, hm⟩
theorem OwnR.frozen {w : World} {base g cap : Nat} {l : List (Int × Int)} (h : OwnR w base (zS (some ⟨g, 0, none⟩) l.length cap) l) (j : Nat) : w.frozen? ⟨g, j, none⟩ = false := World.ownsRow.frozenAt h j
theorem OwnR.set {w : World} {base g cap : Nat} {l : List (Int × Int)} (h : OwnR w base (zS (some ⟨g, 0, none⟩) l.length cap) l) (j : Nat) (x : Int × Int) :
  OwnR ((w.setCell ⟨g, j * 2, none⟩ (zI x.1)).setCell ⟨g, j * 2 + 1, none⟩ (zI x.2)) base (zS (some ⟨g, 0, none⟩) (l.set j x).length cap) (l.set j x) := by
 have h1 := (World.ownsRow.stored h (j * 2) (zI x.1)).1;have h2 := (World.ownsRow.stored h1 (j * 2 + 1) (zI x.2)).1;rw [cellsR_set] at h2;unfold OwnR;rw [List.length_set];exact h2
theorem OwnR.grown_set {w : World} {base g cap n : Nat} {l : List (Int × Int)} (h : OwnR w base (zS (some ⟨g, 0, none⟩) n cap) l) (hn : l.length = n) (j : Nat) (x y : Value) :
  w.grownBy ((w.setCell ⟨g, j * 2, none⟩ x).setCell ⟨g, j * 2 + 1, none⟩ y) (some g) := grown_trans (Go.Proofs.YtabfamhaihnccaaGreat.grown_set w g (j * 2) x) (Go.Proofs.YtabfamhaihnccaaGreat.grown_set _ g (j * 2 + 1) y)
def ArgR (B : Nat) (w : World) (a0 : Option Addr) (l : List (Int × Int)) : Prop := ∀ j, j < l.length -> ∃ b off, a0 = some ⟨b, off, none⟩ /\ b < B /\ w.cell? ⟨b, off + j * 2, none⟩ = some (zI (l.getD j (0, 0)).1) /\ w.cell? ⟨b, off + j * 2 + 1, none⟩ = some (zI (l.getD j (0, 0)).2)
theorem ArgR.below {B : Nat} {w w' : World} {a0 : Option Addr} {l : List (Int × Int)} (h : ArgR B w a0 l) (hb : Below B w w') : ArgR B w' a0 l := fun j hj => by
 obtain ⟨b, off, e, hbB, h1, h2⟩ := h j hj;exact ⟨b, off, e, hbB, (hb.cell (p := ⟨b, off + j * 2, none⟩) hbB).trans h1, (hb.cell (p := ⟨b, off + j * 2 + 1, none⟩) hbB).trans h2⟩
theorem ArgR.mono {B B' : Nat} {w : World} {a0 : Option Addr} {l : List (Int × Int)} (h : ArgR B w a0 l) (hB : B <= B') : ArgR B' w a0 l := fun j hj => by
 obtain ⟨b, off, e, hbB, h1, h2⟩ := h j hj;exact ⟨b, off, e, by omega, h1, h2⟩
def WdR (l : List (Int × Int)) : Prop := ∀ x ∈ l, (-9223372036854775808 <= x.1 /\ x.1 <= 9223372036854775807) /\ (-9223372036854775808 <= x.2 /\ x.2 <= 9223372036854775807)
theorem getR_mem {l : List (Int × Int)} {k : Nat} (h : k < l.length) : l.getD k (0, 0) ∈ l := by
 rw [List.getD_eq_getElem?_getD, List.getElem?_eq_getElem h];exact List.getElem_mem _
theorem infoRev : (Tryz.prog.info? 166).map (fun i => (i.zero, i.size, i.bytes)) = some (some (.agg #[zI 0, zI 0]), 2, 16) := by kernel_rfl
def fillR (f : Nat -> Int × Int) (k n : Nat) : List (Int × Int) := (List.range n).map fun j => if j < k then f j else (0, 0)
theorem fillR_len (f : Nat -> Int × Int) (k n : Nat) : (fillR f k n).length = n := by simp [fillR]
theorem fillR_zero (f : Nat -> Int × Int) (n : Nat) : fillR f 0 n = List.replicate n (0, 0) := by
 apply List.ext_getElem (by simp [fillR]);intro j h1 h2;simp [fillR]
theorem fillR_set (f : Nat -> Int × Int) (k n : Nat) (hk : k < n) : (fillR f k n).set k (f k) = fillR f (k + 1) n := by
 apply List.ext_getElem (by simp [fillR]);intro j h1 h2;simp only [fillR, List.getElem_set, List.getElem_map, List.getElem_range];by_cases e : k = j
 ·subst e; simp
 ·rw [if_neg e]
  by_cases h : j < k
  ·rw [if_pos h, if_pos (by omega)]
  ·rw [if_neg h, if_neg (by omega)]
theorem fillR_all (l : List (Int × Int)) : fillR (fun j => l.getD j (0, 0)) l.length l.length = l := by
 apply List.ext_getElem (by simp [fillR]);intro j h1 h2;simp [fillR, List.getD, h2]
theorem cells_zeros (n : Nat) : cellsR (List.replicate n (0, 0)) = List.replicate (n * 2) (zI 0) := by
 induction n with
 | zero => rfl
 | succ n ih => rw [List.replicate_succ, cellsR_cons, ih, show (n + 1) * 2 = n * 2 + 1 + 1 by omega, List.replicate_succ, List.replicate_succ]
theorem made_revs (n : Nat) : (madeCells (Value.agg #[zI 0, zI 0]).cells (n * 2)).toList = cellsR (List.replicate n (0, 0)) := by
 rw [cells_zeros];apply List.ext_getElem (by simp [madeCells]);intro j h1 h2
 rcases Nat.mod_two_eq_zero_or_one j with e | e <;> simp [madeCells, Value.cells, e]
theorem OwnR.of_made {w : World} {base g n : Nat} (h : w.ownsRow base 166 2 (zS (some ⟨g, 0, none⟩) n n) n (madeCells (Value.agg #[zI 0, zI 0]).cells (n * 2)).toList) :
  OwnR w base (zS (some ⟨g, 0, none⟩) (List.replicate n ((0 : Int), (0 : Int))).length n) (List.replicate n (0, 0)) := by
 rw [made_revs] at h;unfold OwnR;rw [List.length_replicate];exact h
def marksR (k n : Nat) : List (Int × Int) := (List.range n).map fun j => (((k + 2 * j : Nat) : Int), ((k + 2 * j + 1 : Nat) : Int))
theorem marksR_len (k n : Nat) : (marksR k n).length = n := by simp [marksR]
theorem marksR_getD {k n j : Nat} (h : j < n) : (marksR k n).getD j (0, 0) = (((k + 2 * j : Nat) : Int), ((k + 2 * j + 1 : Nat) : Int)) := by simp [marksR, List.getD, h]
end Go.Proofs.YtabfamhaihnccaaGreat
namespace Go.Proofs.YtabfamhaihnccaaGreat
open Go.RowKit
structure Cl where
 issuer : ByteArray
 num : Int
 ths : Int
 nxt : Int
 bas : Int
 revs : List (Int × Int)
 sig : ByteArray
abbrev zCl (c : Cl) (p : Value) : Array Value := #[.string c.issuer, .int .i64 c.num, .int .i64 c.ths, .int .i64 c.nxt, .int .i64 c.bas, p, .string c.sig]
def clV (c : Cl) (p : Value) : Value := .agg (zCl c p)
def ClAt (w : World) (v : Value) (c : Cl) : Prop := ∃ p, v = clV c p /\ RevAt w p c.revs
theorem ClAt.below {w w' : World} {v : Value} {c : Cl} (h : ClAt w v c) (hb : zW w w') : ClAt w' v c := by
 obtain ⟨p, hv, h1⟩ := h;exact ⟨p, hv, h1.below hb⟩
theorem ClAt.shape {w : World} {v : Value} {c : Cl} (h : ClAt w v c) : ∃ p q, v = clV c (zS p c.revs.length q) := by
 obtain ⟨pv, hv, ⟨p, q, h1, _⟩⟩ := h;exact ⟨p, q, by rw [hv, h1]⟩
def OwnL (w : World) (base : Nat) (v : Value) (c : Cl) : Prop := ∃ p, v = clV c p /\ OwnR w base p c.revs
theorem OwnL.at {w : World} {base : Nat} {v : Value} {c : Cl} (h : OwnL w base v c) : ClAt w v c := by
 obtain ⟨p, hv, h1⟩ := h;exact ⟨p, hv, h1.at⟩
theorem OwnL.stays {w w' : World} {base : Nat} {v : Value} {c : Cl} (h : OwnL w base v c) (hb : zW w w') : OwnL w' base v c := by
 obtain ⟨p, hv, h1⟩ := h;exact ⟨p, hv, h1.stays hb⟩
theorem OwnL.base {w : World} {b b' : Nat} {v : Value} {c : Cl} (h : OwnL w b v c) (hb : b' <= b) : OwnL w b' v c := by
 obtain ⟨p, hv, h1⟩ := h;exact ⟨p, hv, h1.base hb⟩
def ArgL (B : Nat) (w : World) (v : Value) (c : Cl) : Prop := ∃ pa pc, v = clV c (zS pa c.revs.length pc) /\ ArgR B w pa c.revs
theorem ArgL.below {B : Nat} {w w' : World} {v : Value} {c : Cl} (h : ArgL B w v c) (hb : Below B w w') : ArgL B w' v c := by
 obtain ⟨pa, pc, hv, h1⟩ := h;exact ⟨pa, pc, hv, h1.below hb⟩
theorem ArgL.mono {B B' : Nat} {w : World} {v : Value} {c : Cl} (h : ArgL B w v c) (hB : B <= B') : ArgL B' w v c := by
 obtain ⟨pa, pc, hv, h1⟩ := h;exact ⟨pa, pc, hv, h1.mono hB⟩
def wtL (c : Cl) : Nat := c.issuer.size + c.revs.length + c.sig.size
def WdL (c : Cl) : Prop := Wd [c.num, c.ths, c.nxt, c.bas] /\ WdR c.revs /\ WdT [c.issuer, c.sig] /\ c.revs.length <= 9223372036854775807
def szL (c : Cl) (left : Int) : Int := if (wtL c : Int) <= left then left - wtL c else -1
theorem wtL_parts {c : Cl} {b : Nat} (h : wtL c <= b) : c.issuer.size <= b /\ c.revs.length <= b /\ c.sig.size <= b := by unfold wtL at h; omega
theorem toRev_any (s r : Int) (w : World) : Calls Tryz.prog 113 #[.agg #[.int .i64 s, .int .i64 r]] w fun e w' => e = .returned (.agg #[.int .i64 s, .int .i64 r]) /\ zW w w' := by
 go_enter Tryz.func113, Tryz.ntmps113;go_wp2_with fail;refine bodyPost_ret (v := .agg #[.int .i64 s, .int .i64 r]) (by simp [results, Tryz.results113, go_sem]) rfl ⟨rfl, ?_⟩;have e0 := size_alloc w (Obj.cells #[.int .i64 s, .int .i64 r] 168);have e1 := size_alloc (w.alloc (Obj.cells #[.int .i64 s, .int .i64 r] 168)) (Obj.cells #[.int .i64 s, .int .i64 r] 166);exact (((Below.refl _ _).alloc (Nat.le_refl _) _).alloc (by omega) _).alloc (by omega) _
theorem toRevS_any (a0 : Option Addr) (l : List (Int × Int)) (len cap B : Nat) (w : World) (hlen : l.length = len) (hl : len <= 1048576) (hB : B <= w.heap.size) (ha : ArgR B w a0 l) :
  Calls Tryz.prog 64 #[zS a0 len cap] w fun e w' => ∃ v, e = .returned v /\ OwnR w' w.heap.size v l /\ zW w w' := by
 obtain ⟨i0, hi, hz0, hz1, hz2⟩ := info_parts infoRev;have HA : Hid (ArgR B w a0 l /\ l.length = len) := ⟨ha, hlen⟩;clear ha hlen;obtain ⟨f, hf⟩ : ∃ f : Nat -> Int × Int, (fun j => l.getD j (0, 0)) = f := ⟨_, rfl⟩;have HF : Hid ((fun j => l.getD j (0, 0)) = f) := hf;clear hf;go_enter Tryz.func64, Tryz.ntmps64;go_wp2_with (at_make; refine wpList_make_full _ rfl _ _ 63 rfl w.heap.size 166 i0 (.agg #[zI 0, zI 0]) 2 Tryz.underlying63 hi hz0 hz1 .i64 .i64 _ _ len rfl rfl ?m0 ?m1 ?m2 ?m3 ?m4 ?_)
 case m0 => simp
 case m1 => simp
 case m2 => rw [hz2]; omega
 case m3 => unfold maxLen; omega
 case m4 => exact Nat.le_refl _
 intro w1 hown hgrow;have HO : Hid (OwnR w1 w.heap.size (zS (some ⟨w.heap.size, 0, none⟩) (fillR f 0 len).length len) (fillR f 0 len) /\ zW w w1) := by
  refine ⟨?_, (Below.refl _ _).grown hgrow (Nat.le_refl _) (fun j hj => by cases hj)⟩;rw [fillR_zero];exact OwnR.of_made hown
 clear hown hgrow;go_wp2_with fail
 go_loopw [4] (fun iv wr => ∃ k : Nat, k <= len /\ iv = zI k /\ Hid (OwnR wr w.heap.size (zS (some ⟨w.heap.size, 0, none⟩) (fillR f k len).length len) (fillR f k len) /\ zW w wr)) (fun iv _ => len - (intOf iv).toNat)
 case atStart => exact ⟨0, Nat.zero_le _, rfl, HO.out⟩
 case round =>
  obtain ⟨k, hk, rfl, H⟩ := hrel;clear HO;have hfl := fillR_len f k len;by_cases hkn : k < len
  ·obtain ⟨b, off, hao, hbB, hc1, hc2⟩ := HA.1 k (by rw [HA.2]; exact hkn)
   have hfk : l.getD k (0, 0) = f k := congrFun HF.out k;rw [hfk] at hc1 hc2;have u1 : wr.cell? ⟨b, off + k * 2, none⟩ = some (zI (f k).1) := (H.2.cell (p := ⟨b, off + k * 2, none⟩) (by show b < w.heap.size; omega)).trans hc1;have u2 : wr.cell? ⟨b, off + k * 2 + 1, none⟩ = some (zI (f k).2) := (H.2.cell (p := ⟨b, off + k * 2 + 1, none⟩) (by show b < w.heap.size; omega)).trans hc2;subst hao;have HR := toRev_any (f k).1 (f k).2 wr;have HN : Hid (∀ w3, zW wr w3 -> OwnR ((w3.setCell ⟨w.heap.size, k * 2, none⟩ (zI (f k).1)).setCell ⟨w.heap.size, k * 2 + 1, none⟩ (zI (f k).2)) w.heap.size (zS (some ⟨w.heap.size, 0, none⟩) (fillR f (k + 1) len).length len) (fillR f (k + 1) len) /\ zW w ((w3.setCell ⟨w.heap.size, k * 2, none⟩ (zI (f k).1)).setCell ⟨w.heap.size, k * 2 + 1, none⟩ (zI (f k).2))) := fun w3 hb => by
    refine ⟨?_, Below.setCell (p := ⟨w.heap.size, k * 2 + 1, none⟩) (Below.setCell (p := ⟨w.heap.size, k * 2, none⟩) (H.2.trans (hb.mono H.2.size)) (Nat.le_refl _) _) (Nat.le_refl _) _⟩;have := (H.1.stays hb).set k (f k)
    rwa [fillR_set f k _ hkn] at this
   have HC : Hid (∀ w3, zW wr w3 -> (∀ j, w3.frozen? ⟨w.heap.size, j, none⟩ = false) /\ ∃ x y, w3.cell? ⟨w.heap.size, k * 2, none⟩ = some (zI x) /\ w3.cell? ⟨w.heap.size, k * 2 + 1, none⟩ = some (zI y)) := fun w3 hb =>
    ⟨fun j => (H.1.stays hb).frozen j, _, _, (H.1.stays hb).cell (j := k) (by rw [fillR_len]; exact hkn)⟩
   clear hfk H hfl hc1 hc2 hbB;generalize (f k).1 = x at *;generalize (f k).2 = y at *;have hki : (k : Int) < (len : Int) := by omega
   have hk0 : (0 : Int) <= (k : Int) := by omega
   go_wp2_with fail;refine HR.mono ?_;rintro e w3 ⟨rfl, hb3⟩;obtain ⟨fz, x0, y0, d0, d1⟩ := HC.out w3 hb3;have HN3 := HN.out w3 hb3;clear HN HC hb3 u1 u2 HR;have HN : Hid _ := HN3;clear HN3;go_wp2_with fail
   go_roundw
   case rel => exact ⟨k + 1, by omega, by go_num, HN.out⟩
   case measure => simp [intOf]; omega
  ·have hkl : k = len := by omega
   subst hkl;have HE : Hid (fillR f k k = l) := by
    rw [<- HF.out, <- HA.2];exact fillR_all l
   go_wp2
   go_ret;refine ⟨_, rfl, ?_, H.2⟩;have h := H.1;rw [HE.out, HA.2] at h;exact h
theorem szRevS_any (a0 : Option Addr) (len cap : Nat) (left : Int) (w : World) (hm : len <= 9223372036854775807) (h0 : 0 <= left) (hl : left <= 1048576) :
  Calls Tryz.prog 62 #[zS a0 len cap, zI left] w fun e w' => e = .returned (zI (if (len : Int) <= left then left - (len : Int) else -1)) /\ zW w w' := by
 have w1 : IntKind.i64.wrap (left - (len : Int)) = left - (len : Int) := by rw [IntKind.wrap_i64]; omega
 by_cases h : (len : Int) <= left
 ·have hneg : ¬ left - (len : Int) < 0 := by omega
  rw [if_pos h];go_enter Tryz.func62, Tryz.ntmps62
  go_wp2
  go_ret;exact ⟨rfl, Below.refl _ _⟩
 ·have hneg : left - (len : Int) < 0 := by omega
  rw [if_neg h];go_enter Tryz.func62, Tryz.ntmps62
  go_wp2
  go_ret;exact ⟨rfl, Below.refl _ _⟩
theorem eqRev_same (s r : Int) (w : World) : Calls Tryz.prog 115 #[.agg #[zI s, zI r], .agg #[zI s, zI r]] w fun e w' => e = .returned (.bool true) /\ zW w w' := by
 have e0 := size_alloc w (Obj.cells #[zI s, zI r] 166);go_enter Tryz.func115, Tryz.ntmps115;go_wp2_with fail;go_ret;exact ⟨rfl, ((Below.refl _ _).alloc (Nat.le_refl _) _).alloc (by omega) _⟩
theorem eqRevS_same (a b : Value) (l : List (Int × Int)) (w : World) (hl : l.length <= 1000000000) (ha : RevAt w a l) (hb : RevAt w b l) : Calls Tryz.prog 67 #[a, b] w fun e w' => e = .returned (.bool true) /\ zW w w' := by
 obtain ⟨ao, ca, rfl, hca⟩ := ha;obtain ⟨bo, cb, rfl, hcb⟩ := hb;have HA : Hid (∀ j, j < l.length -> ∃ g, ao = some ⟨g, 0, none⟩ /\ g < w.heap.size /\ w.cell? ⟨g, j * 2, none⟩ = some (zI (l.getD j (0, 0)).1) /\ w.cell? ⟨g, j * 2 + 1, none⟩ = some (zI (l.getD j (0, 0)).2)) := hca;have HB : Hid (∀ j, j < l.length -> ∃ g, bo = some ⟨g, 0, none⟩ /\ g < w.heap.size /\ w.cell? ⟨g, j * 2, none⟩ = some (zI (l.getD j (0, 0)).1) /\ w.cell? ⟨g, j * 2 + 1, none⟩ = some (zI (l.getD j (0, 0)).2)) := hcb;clear hca hcb;go_enter Tryz.func67, Tryz.ntmps67;go_wp2_with fail
 go_loopw [5] (fun iv wr => ∃ k : Nat, k <= l.length /\ iv = zI k /\ Hid (zW w wr)) (fun iv _ => l.length - (intOf iv).toNat)
 case atStart => exact ⟨0, Nat.zero_le _, rfl, Below.refl _ _⟩
 case round =>
  obtain ⟨k, hk, rfl, HW⟩ := hrel;by_cases hlt : k < l.length
  ·obtain ⟨ga, hao, hga, ha1, ha2⟩ := HA.out k hlt
   obtain ⟨gb, hbo, hgb, hb1, hb2⟩ := HB.out k hlt;have hbel := HW.out;have c1 : wr.cell? ⟨ga, k * 2, none⟩ = some (zI (l.getD k (0, 0)).1) := (hbel.cell (p := ⟨ga, k * 2, none⟩) hga).trans ha1;have c2 : wr.cell? ⟨ga, k * 2 + 1, none⟩ = some (zI (l.getD k (0, 0)).2) := (hbel.cell (p := ⟨ga, k * 2 + 1, none⟩) hga).trans ha2;have c3 : wr.cell? ⟨gb, k * 2, none⟩ = some (zI (l.getD k (0, 0)).1) := (hbel.cell (p := ⟨gb, k * 2, none⟩) hgb).trans hb1;have c4 : wr.cell? ⟨gb, k * 2 + 1, none⟩ = some (zI (l.getD k (0, 0)).2) := (hbel.cell (p := ⟨gb, k * 2 + 1, none⟩) hgb).trans hb2;generalize (l.getD k (0, 0)).1 = x at *;generalize (l.getD k (0, 0)).2 = y at *;have HQ : Hid (ga < w.heap.size /\ gb < w.heap.size) := ⟨hga, hgb⟩;subst hao hbo;clear ha1 ha2 hb1 hb2 hbel hga hgb;have hki : (k : Int) < (l.length : Int) := by omega
   have hk0 : (0 : Int) <= (k : Int) := by omega
   have HR := eqRev_same x y wr.drew;have hcs : wr.cell? ⟨ga, k * 2, none⟩ = some (zI x) /\ wr.cell? ⟨ga, k * 2 + 1, none⟩ = some (zI y) /\ wr.cell? ⟨gb, k * 2, none⟩ = some (zI x) /\ wr.cell? ⟨gb, k * 2 + 1, none⟩ = some (zI y) := ⟨c1, c2, c3, c4⟩;have HS : Hid (∀ w3, Below wr.drew.heap.size wr.drew w3 -> w3.cell? ⟨ga, k * 2, none⟩ = some (zI x) /\ w3.cell? ⟨ga, k * 2 + 1, none⟩ = some (zI y) /\ w3.cell? ⟨gb, k * 2, none⟩ = some (zI x) /\ w3.cell? ⟨gb, k * 2 + 1, none⟩ = some (zI y)) := fun w3 hb => by
    have e : wr.drew.heap.size = wr.heap.size := rfl;have h1 := HW.size;have h2 := HQ.out;exact ⟨(hb.cell (p := ⟨ga, k * 2, none⟩) (by show ga < _; omega)).trans c1, (hb.cell (p := ⟨ga, k * 2 + 1, none⟩) (by show ga < _; omega)).trans c2, (hb.cell (p := ⟨gb, k * 2, none⟩) (by show gb < _; omega)).trans c3, (hb.cell (p := ⟨gb, k * 2 + 1, none⟩) (by show gb < _; omega)).trans c4⟩
   go_wp2_with fail
   go_region_held3 (fun W => W.cell? ⟨ga, k * 2, none⟩ = some (zI x) /\ W.cell? ⟨ga, k * 2 + 1, none⟩ = some (zI y) /\ W.cell? ⟨gb, k * 2, none⟩ = some (zI x) /\ W.cell? ⟨gb, k * 2 + 1, none⟩ = some (zI y)) (first | exact hc3 | exact hcs) ((go_at_call 115; refine HR.mono ?_; rintro e w3 ⟨rfl, hb3⟩; have hc3 := HS.out w3 hb3))
   all_goals (
    go_wp2_with fail;exact ⟨⟨k + 1, by omega, by go_num, HW.out.drew.trans (hb3.mono HW.out.drew.size)⟩, by simp [intOf]; omega⟩)
  ·go_wp2_with fail
   go_ret;exact ⟨rfl, HW.out⟩
theorem markR_any (v : Value) (l : List (Int × Int)) (k base : Nat) (w : World) (hl : l.length <= 100000000) (hk : k <= 1000000000) (hv : OwnR w base v l) :
  Calls Tryz.prog 68 #[v, zI k] w fun e w' => e = .returned (zI (((k + 2 * l.length : Nat)) : Int)) /\ OwnR w' base v (marksR k l.length) /\ w.grownBy w' v.ownBlock := by
 obtain ⟨n, hn⟩ := zE (l.length);have HN : Hid (l.length = n) := hn;obtain ⟨ao, cap, rfl, hc, _⟩ := hv.shape;rw [hn] at hc hl;have hv' : OwnR w base (zS ao n cap) l := hn ▸ hv;rw [hn];have HV : Hid (OwnR w base (zS ao n cap) l) := hv';have HC : Hid (0 < n -> ∃ g, ao = some ⟨g, 0, none⟩) := hc;clear hv hv' hc hn;go_enter Tryz.func68, Tryz.ntmps68;go_wp2_with fail
 go_loopw [1, 5] (fun kv iv wr => ∃ (j : Nat) (L : List (Int × Int)), j <= n /\ kv = zI ((k + 2 * j : Nat) : Int) /\ iv = zI j /\ Hid (L.length = n /\ (∀ i, i < j -> L.getD i (0, 0) = (((k + 2 * i : Nat) : Int), ((k + 2 * i + 1 : Nat) : Int))) /\ OwnR wr base (zS ao n cap) L /\ w.grownBy wr (Value.slice ao n cap).ownBlock)) (fun _ iv _ => n - (intOf iv).toNat)
 case atStart => exact ⟨0, l, Nat.zero_le _, by simp, rfl, HN.out, fun i hi => by omega, HV.out, World.grownBy.refl _ _⟩
 case round =>
  obtain ⟨j, L, hj, rfl, rfl, H⟩ := hrel;by_cases hlt : j < n
  ·obtain ⟨g, hao⟩ := HC.out (by omega)
   subst hao;have hL := H.1;have hO : OwnR wr base (zS (some ⟨g, 0, none⟩) L.length cap) L := by rw [hL]; exact H.2.2.1
   obtain ⟨c1, c2⟩ := hO.cell (j := j) (by omega);have fz := fun i => hO.frozen i
   obtain ⟨q, hq⟩ : ∃ q : Nat, k + 2 * j = q := ⟨_, rfl⟩;have HNx : Hid (OwnR ((wr.setCell ⟨g, j * 2, none⟩ (zI (q : Int))).setCell ⟨g, j * 2 + 1, none⟩ (zI ((q + 1 : Nat) : Int))) base (zS (some ⟨g, 0, none⟩) n cap) (L.set j ((q : Int), ((q + 1 : Nat) : Int))) /\ w.grownBy ((wr.setCell ⟨g, j * 2, none⟩ (zI (q : Int))).setCell ⟨g, j * 2 + 1, none⟩ (zI ((q + 1 : Nat) : Int))) (some g)) := by
    refine ⟨?_, grown_trans H.2.2.2 (hO.grown_set rfl j _ _)⟩;have := hO.set j ((q : Int), ((q + 1 : Nat) : Int));rw [List.length_set, hL] at this;exact this
   have HLs : Hid (∀ i, i < j + 1 -> (L.set j ((q : Int), ((q + 1 : Nat) : Int))).getD i (0, 0) = (((k + 2 * i : Nat) : Int), ((k + 2 * i + 1 : Nat) : Int))) := fun i hi => by
    by_cases e : i = j
    ·subst e
     rw [hq];simp [List.getD, show i < L.length by omega]
    ·have := H.2.1 i (by omega)
     rw [<- this];simp [List.getD, List.getElem?_set_ne (show j ≠ i by omega)]
   have HLl : Hid ((L.set j ((q : Int), ((q + 1 : Nat) : Int))).length = n) := by show _ = n; rw [List.length_set]; exact hL
   have hqb : q <= 2000000000 := by omega
   have HQ : Hid (k + 2 * (j + 1) = q + 1 + 1) := by show k + 2 * (j + 1) = q + 1 + 1; omega
   rw [hq];have q1 : IntKind.i64.wrap ((q : Int) + 1) = ((q + 1 : Nat) : Int) := by rw [IntKind.wrap_i64]; omega
   have q2 : IntKind.i64.wrap (((q + 1 : Nat) : Int) + 1) = ((q + 1 + 1 : Nat) : Int) := by rw [IntKind.wrap_i64]; omega
   obtain ⟨Q1, hQ1⟩ : ∃ z : Int, ((q + 1 : Nat) : Int) = z := ⟨_, rfl⟩;obtain ⟨Q2, hQ2⟩ : ∃ z : Int, ((q + 1 + 1 : Nat) : Int) = z := ⟨_, rfl⟩;have HQ2 : Hid (((q + 1 + 1 : Nat) : Int) = Q2) := hQ2;rw [hQ1] at q1 q2 HNx HLs HLl;rw [hQ2] at q2;clear hQ1 hQ2 hq H hO hL;generalize (L.getD j (0, 0)).1 = x0 at *;generalize (L.getD j (0, 0)).2 = y0 at *;have hji : (j : Int) < (n : Int) := by omega
   have hj0 : (0 : Int) <= (j : Int) := by omega
   go_wp2_with fail
   go_roundw
   case rel => exact ⟨j + 1, _, by omega, by rw [HQ.out, HQ2.out], by go_num, HLl.out, HLs.out, HNx.1, HNx.2⟩
   case measure => simp [intOf]; omega
  ·have hjn : j = n := by omega
   subst hjn;have HE : Hid (L = marksR k j) := by
    refine List.ext_getElem (by rw [marksR_len]; exact H.1) fun i h1 h2 => ?_
    have := H.2.1 i (by have := H.1; omega);simp only [List.getD, List.getElem?_eq_getElem h1, Option.getD_some] at this;rw [this];simp [marksR]
   go_wp2_with fail;go_ret;refine ⟨rfl, ?_, H.2.2.2⟩;rw [<- HE.out];exact H.2.2.1
theorem heldR_same (v : Value) (n k : Nat) (w : World) (hn : n <= 100000000) (hk : k <= 1000000000) (hv : RevAt w v (marksR k n)) :
  Calls Tryz.prog 150 #[v, zI k] w fun e w' => e = .returned (zI (((k + 2 * n : Nat)) : Int)) /\ zW w w' := by
 obtain ⟨ao, cap, rfl, hc⟩ := hv;rw [marksR_len] at hc |-;have HC : Hid (∀ j, j < n -> ∃ g, ao = some ⟨g, 0, none⟩ /\ g < w.heap.size /\ w.cell? ⟨g, j * 2, none⟩ = some (zI ((k + 2 * j : Nat) : Int)) /\ w.cell? ⟨g, j * 2 + 1, none⟩ = some (zI ((k + 2 * j + 1 : Nat) : Int))) := fun j hj => by
  have := hc j hj;rw [marksR_getD hj] at this;exact this
 clear hc;go_enter Tryz.func150, Tryz.ntmps150;go_wp2_with fail
 go_loopw [1, 5] (fun kv iv wr => ∃ j : Nat, j <= n /\ kv = zI ((k + 2 * j : Nat) : Int) /\ iv = zI j /\ wr = w) (fun _ iv _ => n - (intOf iv).toNat)
 case atStart => exact ⟨0, Nat.zero_le _, by simp, rfl, rfl⟩
 case round =>
  obtain ⟨j, hj, rfl, rfl, rfl⟩ := hrel;by_cases hlt : j < n
  ·obtain ⟨g, hao, hg, c1, c2⟩ := HC.out j hlt
   subst hao;obtain ⟨q, hq⟩ : ∃ q : Nat, k + 2 * j = q := ⟨_, rfl⟩;have hqb : q <= 2000000000 := by omega
   have HQ : Hid (k + 2 * (j + 1) = q + 1 + 1) := by show k + 2 * (j + 1) = q + 1 + 1; omega
   rw [hq] at c1 c2 |-;have q1 : IntKind.i64.wrap ((q : Int) + 1) = ((q + 1 : Nat) : Int) := by rw [IntKind.wrap_i64]; omega
   have q2 : IntKind.i64.wrap (((q + 1 : Nat) : Int) + 1) = ((q + 1 + 1 : Nat) : Int) := by rw [IntKind.wrap_i64]; omega
   obtain ⟨Q1, hQ1⟩ : ∃ z : Int, ((q + 1 : Nat) : Int) = z := ⟨_, rfl⟩;obtain ⟨Q2, hQ2⟩ : ∃ z : Int, ((q + 1 + 1 : Nat) : Int) = z := ⟨_, rfl⟩;have HQ2 : Hid (((q + 1 + 1 : Nat) : Int) = Q2) := hQ2;rw [hQ1] at q1 q2 c2;rw [hQ2] at q2;clear hQ1 hQ2 hq;have hji : (j : Int) < (n : Int) := by omega
   have hj0 : (0 : Int) <= (j : Int) := by omega
   go_wp2_with fail
   go_roundw
   case rel => exact ⟨j + 1, by omega, by rw [HQ.out, HQ2.out], by go_num, by first | rfl | trivial⟩
   case measure => simp [intOf]; omega
  ·have hjn : j = n := by omega
   subst hjn;go_wp2_with fail;go_ret;exact ⟨rfl, Below.refl _ _⟩
end Go.Proofs.YtabfamhaihnccaaGreat
