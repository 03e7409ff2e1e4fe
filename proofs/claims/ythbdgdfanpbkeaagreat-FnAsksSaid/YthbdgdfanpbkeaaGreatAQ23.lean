/-
  Texts of the proof.
-/
import Derived.Laws.CopyOwn
import Derived.WalkSpells
import Derived.RangeFuncNested
import Derived.RangeFuncBound
import Derived.RangeFuncCalls
import Derived.RangeFuncLeaves
import Derived.RangeFuncBox
import Derived.WalkKit
import Derived.Shelf.Abstract
import Derived.Shelf.RegionOpen
import Derived.OwnWalkIn
import Derived.TacticsInMore
import Derived.LoopNIn
import Derived.LoopIn
import Derived.Maps.AppendAt
import Derived.Test.YthbdgdfanpbkeaaGreatAQ22
namespace Go.Proofs.YthbdgdfanpbkeaaGreat
open Go Go.RowKit Go.Shelf
attribute [local go_sem] Oper.semAt_some
def readI (w : World) : Value -> List Int
 | .slice (some a) n _ => (List.range n).map fun j => ((w.cell? ⟨a.block, j, none⟩).map intOf).getD 0
 | _ => []
theorem readI_own {w : World} {base : Nat} {v : Value} {l : List Int} (h : OwnI w base v l) : readI w v = l := by
 obtain ⟨ao, cap, rfl, hc, _⟩ := h.shape
 rcases Nat.eq_zero_or_pos l.length with h0 | h0
 ·rw [List.eq_nil_of_length_eq_zero h0]
  cases ao <;> simp [readI]
 ·obtain ⟨g, rfl⟩ := hc h0
  apply List.ext_getElem
  ·simp [readI]
  ·intro j h1 h2
   have := h.cell h2
   simp only [readI, List.getElem_map, List.getElem_range, this]
   simp [intOf, List.getD, h2]
end Go.Proofs.YthbdgdfanpbkeaaGreat
namespace Go.Proofs.YthbdgdfanpbkeaaGreat
open Go.RowKit
def ok3 (a b m : List Int) : Prop := ((okL a = true /\ okL b = true) /\ okL m = true) /\ 0 < m.length
def mmL (a b m : List Int) : List Int := if ((okL a && okL b) && okL m && decide (0 < m.length)) = true then digs (ev a * ev b % ev m) else []
def pmL (a e m : List Int) : List Int := if ((okL a && okL e) && okL m && decide (0 < m.length)) = true then digs (ev a ^ (ev e).toNat % ev m) else []
theorem ok3_of {a b m : List Int} (h : ((okL a && okL b) && okL m && decide (0 < m.length)) = true) : ok3 a b m := by simpa [ok3] using h
structure Mo (m : List Int) : Prop where
 len : m.length <= 40
 dig : Dig m
 top : Top m
 pos : 0 < m.length
theorem Mo.of {m : List Int} (h : okL m = true) (h0 : 0 < m.length) : Mo m := ⟨(okL_true h).1, (okL_true h).2.1, (okL_true h).2.2, h0⟩
theorem Mo.ev_pos {m : List Int} (h : Mo m) : 0 < ev m := Go.Proofs.YthbdgdfanpbkeaaGreat.ev_pos h.dig h.top h.pos
theorem Mo.ev_lt {m : List Int} (h : Mo m) : ev m < 10000 ^ 40 := Int.lt_of_lt_of_le (Go.Proofs.YthbdgdfanpbkeaaGreat.ev_lt h.dig) (pw_le h.len)
theorem Mo.rem {m : List Int} (h : Mo m) (x : Int) : 0 <= x % ev m /\ x % ev m < 10000 ^ 40 := ⟨Int.emod_nonneg _ (by have := h.ev_pos; omega), Int.lt_trans (Int.emod_lt_of_pos _ h.ev_pos) h.ev_lt⟩
theorem okL_lt {l : List Int} (h : okL l = true) : 0 <= ev l /\ ev l < 10000 ^ 40 := ⟨ev_nonneg (okL_true h).2.1, Int.lt_of_lt_of_le (Go.Proofs.YthbdgdfanpbkeaaGreat.ev_lt (okL_true h).2.1) (pw_le (okL_true h).1)⟩
theorem pmL_len (a e m : List Int) : (pmL a e m).length <= 40 := by
 unfold pmL
 split
 ·rename_i h
  have h := ok3_of h
  have hm := Mo.of h.1.2 h.2
  exact digs_len (hm.rem _).1 (hm.rem _).2
 ·simp
theorem prod_len {a b : List Int} (ha : Dig a) (hb : Dig b) (hla : a.length <= 40) (hlb : b.length <= 40) : (digs (ev a * ev b)).length <= 80 := by
 have a1 := ev_nonneg ha
 have a2 := ev_nonneg hb
 have a3 := ev_lt ha
 have a4 := ev_lt hb
 have p1 := pw_le hla
 have p2 := pw_le hlb
 have h3 := Int.mul_le_mul_of_nonneg_right (show ev a <= 10000 ^ 40 by omega) a2
 have h4 := Int.mul_lt_mul_of_pos_left (show ev b < 10000 ^ 40 by omega) (pw_pos 40)
 exact digs_len (k := 80) (Int.mul_nonneg a1 a2) (by rw [show (80 : Nat) = 40 + 40 from rfl, pw_add]; omega)
end Go.Proofs.YthbdgdfanpbkeaaGreat
namespace Go.Proofs.YthbdgdfanpbkeaaGreat.Rsa
def pubN (i : Nat) : Nat := [1126842482294775308195694623308240597, 1247981655423532154092554863888897209, 1148686320029967765174256704684350111, 1041691738963920440323911078259316039, 1188244383298528754479973652216547877, 1075170530945368617518771466788785813].getD i 0
def secN (i : Nat) : Nat := [627081986843657021038103046832190081, 235973399362320680315299167363159713, 281032644999931383987796849300097057, 547016512755288186570190285196893553, 685166474584607192110490645292250793, 96021684203171376568690368316119293].getD i 0
end Go.Proofs.YthbdgdfanpbkeaaGreat.Rsa
namespace Go.Proofs.YthbdgdfanpbkeaaGreat
open Go.RowKit
theorem fig_pub {i : Nat} (h : i < 6) : figL (pubT (i : Int)) = digs ((Rsa.pubN i : Nat) : Int) := by
 rw [pubT_at h]
 match i, h with
 | 0, _ => exact figL_of (l := pubF 0) (vs := [1, 1, 2, 6, 8, 4, 2, 4, 8, 2, 2, 9, 4, 7, 7, 5, 3, 0, 8, 1, 9, 5, 6, 9, 4, 6, 2, 3, 3, 0, 8, 2, 4, 0, 5, 9, 7]) (n := 1126842482294775308195694623308240597) (by decide) (by decide +kernel) (by decide +kernel)
 | 1, _ => exact figL_of (l := pubF 1) (vs := [1, 2, 4, 7, 9, 8, 1, 6, 5, 5, 4, 2, 3, 5, 3, 2, 1, 5, 4, 0, 9, 2, 5, 5, 4, 8, 6, 3, 8, 8, 8, 8, 9, 7, 2, 0, 9]) (n := 1247981655423532154092554863888897209) (by decide) (by decide +kernel) (by decide +kernel)
 | 2, _ => exact figL_of (l := pubF 2) (vs := [1, 1, 4, 8, 6, 8, 6, 3, 2, 0, 0, 2, 9, 9, 6, 7, 7, 6, 5, 1, 7, 4, 2, 5, 6, 7, 0, 4, 6, 8, 4, 3, 5, 0, 1, 1, 1]) (n := 1148686320029967765174256704684350111) (by decide) (by decide +kernel) (by decide +kernel)
 | 3, _ => exact figL_of (l := pubF 3) (vs := [1, 0, 4, 1, 6, 9, 1, 7, 3, 8, 9, 6, 3, 9, 2, 0, 4, 4, 0, 3, 2, 3, 9, 1, 1, 0, 7, 8, 2, 5, 9, 3, 1, 6, 0, 3, 9]) (n := 1041691738963920440323911078259316039) (by decide) (by decide +kernel) (by decide +kernel)
 | 4, _ => exact figL_of (l := pubF 4) (vs := [1, 1, 8, 8, 2, 4, 4, 3, 8, 3, 2, 9, 8, 5, 2, 8, 7, 5, 4, 4, 7, 9, 9, 7, 3, 6, 5, 2, 2, 1, 6, 5, 4, 7, 8, 7, 7]) (n := 1188244383298528754479973652216547877) (by decide) (by decide +kernel) (by decide +kernel)
 | 5, _ => exact figL_of (l := pubF 5) (vs := [1, 0, 7, 5, 1, 7, 0, 5, 3, 0, 9, 4, 5, 3, 6, 8, 6, 1, 7, 5, 1, 8, 7, 7, 1, 4, 6, 6, 7, 8, 8, 7, 8, 5, 8, 1, 3]) (n := 1075170530945368617518771466788785813) (by decide) (by decide +kernel) (by decide +kernel)
theorem fig_sec {i : Nat} (h : i < 6) : figL (secT (i : Int)) = digs ((Rsa.secN i : Nat) : Int) := by
 rw [secT_at h]
 match i, h with
 | 0, _ => exact figL_of (l := secF 0) (vs := [6, 2, 7, 0, 8, 1, 9, 8, 6, 8, 4, 3, 6, 5, 7, 0, 2, 1, 0, 3, 8, 1, 0, 3, 0, 4, 6, 8, 3, 2, 1, 9, 0, 0, 8, 1]) (n := 627081986843657021038103046832190081) (by decide) (by decide +kernel) (by decide +kernel)
 | 1, _ => exact figL_of (l := secF 1) (vs := [2, 3, 5, 9, 7, 3, 3, 9, 9, 3, 6, 2, 3, 2, 0, 6, 8, 0, 3, 1, 5, 2, 9, 9, 1, 6, 7, 3, 6, 3, 1, 5, 9, 7, 1, 3]) (n := 235973399362320680315299167363159713) (by decide) (by decide +kernel) (by decide +kernel)
 | 2, _ => exact figL_of (l := secF 2) (vs := [2, 8, 1, 0, 3, 2, 6, 4, 4, 9, 9, 9, 9, 3, 1, 3, 8, 3, 9, 8, 7, 7, 9, 6, 8, 4, 9, 3, 0, 0, 0, 9, 7, 0, 5, 7]) (n := 281032644999931383987796849300097057) (by decide) (by decide +kernel) (by decide +kernel)
 | 3, _ => exact figL_of (l := secF 3) (vs := [5, 4, 7, 0, 1, 6, 5, 1, 2, 7, 5, 5, 2, 8, 8, 1, 8, 6, 5, 7, 0, 1, 9, 0, 2, 8, 5, 1, 9, 6, 8, 9, 3, 5, 5, 3]) (n := 547016512755288186570190285196893553) (by decide) (by decide +kernel) (by decide +kernel)
 | 4, _ => exact figL_of (l := secF 4) (vs := [6, 8, 5, 1, 6, 6, 4, 7, 4, 5, 8, 4, 6, 0, 7, 1, 9, 2, 1, 1, 0, 4, 9, 0, 6, 4, 5, 2, 9, 2, 2, 5, 0, 7, 9, 3]) (n := 685166474584607192110490645292250793) (by decide) (by decide +kernel) (by decide +kernel)
 | 5, _ => exact figL_of (l := secF 5) (vs := [9, 6, 0, 2, 1, 6, 8, 4, 2, 0, 3, 1, 7, 1, 3, 7, 6, 5, 6, 8, 6, 9, 0, 3, 6, 8, 3, 1, 6, 1, 1, 9, 2, 9, 3]) (n := 96021684203171376568690368316119293) (by decide) (by decide +kernel) (by decide +kernel)
theorem pubN_bd {i : Nat} (h : i < 6) : 256 ^ 14 <= Rsa.pubN i /\ Rsa.pubN i < 256 ^ 15 := by
 match i, h with
 | 0, _ => decide
 | 1, _ => decide
 | 2, _ => decide
 | 3, _ => decide
 | 4, _ => decide
 | 5, _ => decide
theorem secN_bd {i : Nat} (h : i < 6) : 0 < Rsa.secN i /\ Rsa.secN i < 256 ^ 15 := by
 match i, h with
 | 0, _ => decide
 | 1, _ => decide
 | 2, _ => decide
 | 3, _ => decide
 | 4, _ => decide
 | 5, _ => decide
theorem txtL_size {l : List Int} {k : Nat} (h : ev l < 256 ^ k) : (txtL l).size <= k := by
 unfold txtL
 split
 ·show ((byI (ev l)).reverse.toArray).size <= k
  have := byI_len h
  simpa using this
 ·show (0 : Nat) <= k
  omega
theorem pm_small (a e : List Int) {i : Nat} (h : i < 6) : (txtL (pmL a e (figL (pubT (i : Int))))).size <= 15 := by
 have hb := pubN_bd h
 refine txtL_size ?_
 have p15 : (256 : Int) ^ 15 = ((256 ^ 15 : Nat) : Int) := by decide
 rw [p15]
 rw [fig_pub h]
 unfold pmL
 split
 ·rw [ev_digs (Int.emod_nonneg _ (by rw [ev_digs (by omega)]; have : 0 < Rsa.pubN i := Nat.lt_of_lt_of_le (by decide) hb.1; omega)), ev_digs (by omega)]
  have h1 : 0 < Rsa.pubN i := Nat.lt_of_lt_of_le (by decide) hb.1
  have h2 := Int.emod_lt_of_pos (ev a ^ (ev e).toNat) (show (0 : Int) < (Rsa.pubN i : Int) by omega)
  have h3 : ((Rsa.pubN i : Nat) : Int) < ((256 ^ 15 : Nat) : Int) := Int.ofNat_lt.2 hb.2
  omega
 ·show (0 : Int) < _
  decide
def zerosB (n : Nat) : ByteArray := ⟨(List.replicate n (0 : UInt8)).toArray⟩
def keyB (l : List Int) : ByteArray := zerosB (15 - (txtL l).size) ++ txtL l
theorem zerosB_size (n : Nat) : (zerosB n).size = n := by show (List.replicate n (0 : UInt8)).toArray.size = n; simp
theorem zeros_more (n : Nat) (t : ByteArray) : (⟨#[0]⟩ : ByteArray) ++ (zerosB n ++ t) = zerosB (n + 1) ++ t := by
 apply ByteArray.ext
 apply Array.ext'
 simp [zerosB, List.replicate_succ]
theorem zeros_none (t : ByteArray) : zerosB 0 ++ t = t := by
 apply ByteArray.ext
 simp [zerosB]
end Go.Proofs.YthbdgdfanpbkeaaGreat
