/-
  Texts of the proof.
-/
import Derived.Lib.LaidU8
import Derived.Laws.StructEq
import Derived.Laws.Rows
import Derived.Test.YtjgbmnhoajiabaaGreatDoorSH2
import Derived.Test.YtjgbmnhoajiabaaGreatDoorSR30
import Derived.Test.YtjgbmnhoajiabaaGreatDoorSR39
set_option maxRecDepth 100000
namespace Go.Proofs.YtjgbmnhoajiabaaGreatDoor
open Go.RowKit
theorem fig_pub {i : Nat} (h : i < 6) : figL (pubT (i : Int)) = digs ((Rsa.pubN i : Nat) : Int) := by
 rw [pubT_at h]
 match i, h with
 | 0, _ => exact figL_of (l := pubF 0) (vs := [1, 1, 2, 6, 8, 4, 2, 4, 8, 2, 2, 9, 4, 7, 7, 5, 3, 0, 8, 1, 9, 5, 6, 9, 4, 6, 2, 3, 3, 0, 8, 2, 4, 0, 5, 9, 7]) (n := 1126842482294775308195694623308240597) (by decide) (by decide +kernel) (by decide +kernel)
 | 1, _ => exact figL_of (l := pubF 1) (vs := [1, 2, 4, 7, 9, 8, 1, 6, 5, 5, 4, 2, 3, 5, 3, 2, 1, 5, 4, 0, 9, 2, 5, 5, 4, 8, 6, 3, 8, 8, 8, 8, 9, 7, 2, 0, 9]) (n := 1247981655423532154092554863888897209) (by decide) (by decide +kernel) (by decide +kernel)
 | 2, _ => exact figL_of (l := pubF 2) (vs := [1, 1, 4, 8, 6, 8, 6, 3, 2, 0, 0, 2, 9, 9, 6, 7, 7, 6, 5, 1, 7, 4, 2, 5, 6, 7, 0, 4, 6, 8, 4, 3, 5, 0, 1, 1, 1]) (n := 1148686320029967765174256704684350111) (by decide) (by decide +kernel) (by decide +kernel)
 | 3, _ => exact figL_of (l := pubF 3) (vs := [1, 0, 4, 1, 6, 9, 1, 7, 3, 8, 9, 6, 3, 9, 2, 0, 4, 4, 0, 3, 2, 3, 9, 1, 1, 0, 7, 8, 2, 5, 9, 3, 1, 6, 0, 3, 9]) (n := 1041691738963920440323911078259316039) (by decide) (by decide +kernel) (by decide +kernel)
 | 4, _ => exact figL_of (l := pubF 4) (vs := [1, 1, 8, 8, 2, 4, 4, 3, 8, 3, 2, 9, 8, 5, 2, 8, 7, 5, 4, 4, 7, 9, 9, 7, 3, 6, 5, 2, 2, 1, 6, 5, 4, 7, 8, 7, 7]) (n := 1188244383298528754479973652216547877) (by decide) (by decide +kernel) (by decide +kernel)
 | 5, _ => exact figL_of (l := pubF 5) (vs := [1, 0, 7, 5, 1, 7, 0, 5, 3, 0, 9, 4, 5, 3, 6, 8, 6, 1, 7, 5, 1, 8, 7, 7, 1, 4, 6, 6, 7, 8, 8, 7, 8, 5, 8, 1, 3]) (n := 1075170530945368617518771466788785813) (by decide) (by decide +kernel) (by decide +kernel)
theorem fig_sec {i : Nat} (h : i < 6) : figL (secT (i : Int)) = digs ((Rsa.secN i : Nat) : Int) := by
 rw [secT_at h]
 match i, h with
 | 0, _ => exact figL_of (l := secF 0) (vs := [6, 2, 7, 0, 8, 1, 9, 8, 6, 8, 4, 3, 6, 5, 7, 0, 2, 1, 0, 3, 8, 1, 0, 3, 0, 4, 6, 8, 3, 2, 1, 9, 0, 0, 8, 1]) (n := 627081986843657021038103046832190081) (by decide) (by decide +kernel) (by decide +kernel)
 | 1, _ => exact figL_of (l := secF 1) (vs := [2, 3, 5, 9, 7, 3, 3, 9, 9, 3, 6, 2, 3, 2, 0, 6, 8, 0, 3, 1, 5, 2, 9, 9, 1, 6, 7, 3, 6, 3, 1, 5, 9, 7, 1, 3]) (n := 235973399362320680315299167363159713) (by decide) (by decide +kernel) (by decide +kernel)
 | 2, _ => exact figL_of (l := secF 2) (vs := [2, 8, 1, 0, 3, 2, 6, 4, 4, 9, 9, 9, 9, 3, 1, 3, 8, 3, 9, 8, 7, 7, 9, 6, 8, 4, 9, 3, 0, 0, 0, 9, 7, 0, 5, 7]) (n := 281032644999931383987796849300097057) (by decide) (by decide +kernel) (by decide +kernel)
 | 3, _ => exact figL_of (l := secF 3) (vs := [5, 4, 7, 0, 1, 6, 5, 1, 2, 7, 5, 5, 2, 8, 8, 1, 8, 6, 5, 7, 0, 1, 9, 0, 2, 8, 5, 1, 9, 6, 8, 9, 3, 5, 5, 3]) (n := 547016512755288186570190285196893553) (by decide) (by decide +kernel) (by decide +kernel)
 | 4, _ => exact figL_of (l := secF 4) (vs := [6, 8, 5, 1, 6, 6, 4, 7, 4, 5, 8, 4, 6, 0, 7, 1, 9, 2, 1, 1, 0, 4, 9, 0, 6, 4, 5, 2, 9, 2, 2, 5, 0, 7, 9, 3]) (n := 685166474584607192110490645292250793) (by decide) (by decide +kernel) (by decide +kernel)
 | 5, _ => exact figL_of (l := secF 5) (vs := [9, 6, 0, 2, 1, 6, 8, 4, 2, 0, 3, 1, 7, 1, 3, 7, 6, 5, 6, 8, 6, 9, 0, 3, 6, 8, 3, 1, 6, 1, 1, 9, 2, 9, 3]) (n := 96021684203171376568690368316119293) (by decide) (by decide +kernel) (by decide +kernel)
theorem pubN_bd {i : Nat} (h : i < 6) : 256 ^ 14 <= Rsa.pubN i /\ Rsa.pubN i < 256 ^ 15 := by
 match i, h with
 | 0, _ => decide
 | 1, _ => decide
 | 2, _ => decide
 | 3, _ => decide
 | 4, _ => decide
 | 5, _ => decide
theorem secN_bd {i : Nat} (h : i < 6) : 0 < Rsa.secN i /\ Rsa.secN i < 256 ^ 15 := by
 match i, h with
 | 0, _ => decide
 | 1, _ => decide
 | 2, _ => decide
 | 3, _ => decide
 | 4, _ => decide
 | 5, _ => decide
theorem txtL_size {l : List Int} {k : Nat} (h : ev l < 256 ^ k) : (txtL l).size <= k := by
 unfold txtL
 split
 ·show ((byI (ev l)).reverse.toArray).size <= k
  have := byI_len h
  simpa using this
 ·show (0 : Nat) <= k
  omega
theorem pm_small (a e : List Int) {i : Nat} (h : i < 6) : (txtL (pmL a e (figL (pubT (i : Int))))).size <= 15 := by
 have hb := pubN_bd h
 refine txtL_size ?_
 have p15 : (256 : Int) ^ 15 = ((256 ^ 15 : Nat) : Int) := by decide
 rw [p15]
 rw [fig_pub h]
 unfold pmL
 split
 ·rw [ev_digs (Int.emod_nonneg _ (by rw [ev_digs (by omega)]; have : 0 < Rsa.pubN i := Nat.lt_of_lt_of_le (by decide) hb.1; omega)), ev_digs (by omega)]
  have h1 : 0 < Rsa.pubN i := Nat.lt_of_lt_of_le (by decide) hb.1
  have h2 := Int.emod_lt_of_pos (ev a ^ (ev e).toNat) (show (0 : Int) < (Rsa.pubN i : Int) by omega)
  have h3 : ((Rsa.pubN i : Nat) : Int) < ((256 ^ 15 : Nat) : Int) := Int.ofNat_lt.2 hb.2
  omega
 ·show (0 : Int) < _
  decide
def zerosB (n : Nat) : ByteArray := ⟨(List.replicate n (0 : UInt8)).toArray⟩
def keyB (l : List Int) : ByteArray := zerosB (15 - (txtL l).size) ++ txtL l
theorem zerosB_size (n : Nat) : (zerosB n).size = n := by show (List.replicate n (0 : UInt8)).toArray.size = n; simp
theorem zeros_more (n : Nat) (t : ByteArray) : (⟨#[0]⟩ : ByteArray) ++ (zerosB n ++ t) = zerosB (n + 1) ++ t := by
 apply ByteArray.ext
 apply Array.ext'
 simp [zerosB, List.replicate_succ]
theorem zeros_none (t : ByteArray) : zerosB 0 ++ t = t := by
 apply ByteArray.ext
 simp [zerosB]
def sigB (i : Int) (s : ByteArray) : ByteArray := if 0 <= i /\ i < 6 then keyB (pmL (readL (pddB s)) (secL i) (figL (pubT i))) else ByteArray.empty
def sokB (key s sig : ByteArray) : Bool := if key.size = 15 /\ sig.size = 15 then (if ev (readL sig) < ev (readL key) then pmL (readL sig) (digs 65537) (readL key) == readL (pddB s) else false) else false
theorem readL_ok (s : ByteArray) : okL (readL s) = true := by
 have h1 := readL_len2 s
 unfold readL at *
 split at h1
 ·rename_i h
  rw [if_pos h]
  exact (okL_iff _).2 ⟨h1, dig_digs _, top_digs _⟩
 ·rename_i h
  rw [if_neg h]
  decide
theorem readL_wd (s : ByteArray) : Wd (readL s) := (okL_true (readL_ok s)).2.1.wd
theorem pmL_ok (a e m : List Int) : Dig (pmL a e m) /\ Top (pmL a e m) := by
 unfold pmL
 split
 ·exact ⟨dig_digs _, top_digs _⟩
 ·exact ⟨fun x hx => by simp at hx, fun h => by simp at h⟩
theorem cmp_read (a b : ByteArray) : cmpL (readL a) (readL b) = cmpI (ev (readL a)) (ev (readL b)) := if_pos ⟨readL_ok a, readL_ok b⟩
theorem slicesEq_any (a b : Value) (la lb : List Int) (w : World) (hla : la.length <= 10000000) (hlb : lb.length <= 10000000) (ha : IntAt w a la) (hb : IntAt w b lb) :
  Calls Tryz.prog 114 #[a, b] w fun e w' => e = .returned (.bool (la == lb)) /\ Below w.heap.size w w' := by
 obtain ⟨ao, ac, rfl, ha⟩ := ha
 obtain ⟨bo, bc, rfl, hb⟩ := hb
 by_cases hl : la.length = lb.length
 ·by_cases h0 : la.length = 0
  ·have e1 : la = [] := List.eq_nil_of_length_eq_zero h0
   have e2 : lb = [] := List.eq_nil_of_length_eq_zero (hl ▸ h0)
   subst e1 e2
   refine (Tryz.slices_Equal_int_empty ao bo ac 0 bc w (by omega)).mono ?_
   rintro e w' ⟨rfl, rfl⟩
   exact ⟨rfl, Below.refl _ _⟩
  ·obtain ⟨g1, rfl, _, hc1⟩ := ha (by omega)
   obtain ⟨g2, rfl, _, hc2⟩ := hb (by omega)
   refine (Tryz.slices_Equal_int g1 0 la.length ac g2 0 lb.length bc la lb w (Nat.le_refl _) (Nat.le_refl _) (by omega) (by omega) (fun j hj => ?_) (fun j hj => ?_)).mono ?_
   ·rw [Nat.zero_add, hc1 j hj]; simp [List.getD, hj]
   ·rw [Nat.zero_add, hc2 j hj]; simp [List.getD, hj]
   ·rintro e w' ⟨rfl, q, rfl⟩
    exact ⟨by rw [List.take_length, List.take_length], ⟨rfl, rfl, rfl, Nat.le_refl _, fun _ _ => rfl⟩⟩
 ·refine (Tryz.slices_Equal_int_lens ao bo la.length ac lb.length bc w hl).mono ?_
  rintro e w' ⟨rfl, rfl⟩
  have hne : (la == lb) = false := by
   rw [beq_eq_false_iff_ne]
   exact fun e => hl (by rw [e])
  exact ⟨by rw [hne], Below.refl _ _⟩
theorem sok_no {key s sig : ByteArray} (h : ¬ (key.size = 15 /\ sig.size = 15)) : sokB key s sig = false := if_neg h
theorem sok_great {key s sig : ByteArray} (h : ¬ ev (readL sig) < ev (readL key)) : sokB key s sig = false := by
 unfold sokB
 rw [if_neg h]
 split <;> rfl
theorem sok_is {key s sig : ByteArray} (h : key.size = 15 /\ sig.size = 15) (h2 : ev (readL sig) < ev (readL key)) : sokB key s sig = (pmL (readL sig) (digs 65537) (readL key) == readL (pddB s)) := by
 unfold sokB
 rw [if_pos h, if_pos h2]
theorem exp_ok : (digs 65537).length <= 10000000 /\ Wd (digs 65537) := ⟨by have := digs_len64 (n := 65537) (by decide); omega, (dig_digs _).wd⟩
set_option maxHeartbeats 1600000 in
theorem implSok_any (key s sig : ByteArray) (w : World) (hk : key.size <= 1048576) (hs : s.size <= 1048576) (hg : sig.size <= 1048576) (hT : KeysOk w) (hS : StartOk w) : Calls Tryz.prog 23 #[.string key, .string s, .string sig] w fun e w' => e = .returned (.bool (sokB key s sig)) /\ Below w.heap.size w w' := by
 have HK : Hid (∀ w', Below w.heap.size w w' -> KeysOk w' /\ StartOk w') := fun w' hb => ⟨keysBelow hT w' hb, startBelow hS w' hb⟩
 clear hT hS
 by_cases h1 : key.size = 15
 ·by_cases h2 : sig.size = 15
  ·have E1 := fun W => implReadL_any key W hk
   have h1i : (key.size : Int) = 15 := by omega
   have h2i : (sig.size : Int) = 15 := by omega
   go_enter Tryz.func23, Tryz.ntmps23
   go_wp2_with fail
   refine (E1 _).mono ?_
   clear E1
   rintro e w1 ⟨v1, rfl, ho1, hb1⟩
   have H1 : Hid (IntAt w1 v1 (readL key) /\ Below w.heap.size w w1) := ⟨ho1.at, hb1⟩
   clear ho1 hb1
   go_wp2_with fail
   refine (implReadL_any sig w1 hg).mono ?_
   rintro e w2 ⟨v2, rfl, ho2, hb2⟩
   have H2 : Hid (IntAt w2 v1 (readL key) /\ IntAt w2 v2 (readL sig) /\ Below w.heap.size w w2) := ⟨H1.out.1.below hb2, ho2.at, below_on H1.out.2 hb2⟩
   clear ho2 hb2 H1
   go_wp2_with fail
   refine (implCmp_any v2 v1 _ _ w2 (by have := readL_len2 sig; omega) (by have := readL_len2 key; omega) (readL_wd _) (readL_wd _) H2.out.2.1 H2.out.1).mono ?_
   rintro e w3 ⟨rfl, hb3⟩
   rw [cmp_read]
   have H3 : Hid (IntAt w3 v1 (readL key) /\ IntAt w3 v2 (readL sig) /\ Below w.heap.size w w3) := ⟨H2.out.1.below hb3, H2.out.2.1.below hb3, below_on H2.out.2.2 hb3⟩
   clear hb3 H2
   by_cases h3 : ev (readL sig) < ev (readL key)
   ·have HN : Hid (sokB key s sig = (pmL (readL sig) (digs 65537) (readL key) == readL (pddB s))) := sok_is ⟨h1, h2⟩ h3
    have hcm : ¬ (0 : Int) <= cmpI (ev (readL sig)) (ev (readL key)) := by have := cmpI_neg.2 h3; omega
    generalize cmpI (ev (readL sig)) (ev (readL key)) = c at *
    clear h3
    go_wp2_with fail
    refine (implOf_any 65537 w3 (by decide)).mono ?_
    rintro e w4 ⟨v3, rfl, ho4, hb4⟩
    have H4 : Hid (IntAt w4 v1 (readL key) /\ IntAt w4 v2 (readL sig) /\ IntAt w4 v3 (digs 65537) /\ Below w.heap.size w w4) := ⟨H3.out.1.below hb4, H3.out.2.1.below hb4, ho4.at, below_on H3.out.2.2 hb4⟩
    clear ho4 hb4 H3
    go_wp2_with fail
    refine (implPowMod_any v2 v3 v1 _ _ _ w4 (by have := readL_len2 sig; omega) exp_ok.1 (by have := readL_len2 key; omega) (readL_wd _) exp_ok.2 (readL_wd _) H4.out.2.1 H4.out.2.2.1 H4.out.1).mono ?_
    rintro e w5 ⟨v4, rfl, ho5, hb5⟩
    have H5 : Hid (IntAt w5 v4 (pmL (readL sig) (digs 65537) (readL key)) /\ Below w.heap.size w w5) := ⟨ho5.at, below_on H4.out.2.2.2 hb5⟩
    clear ho5 hb5 H4
    go_wp2_with fail
    refine (implPadded_any s w5 (by omega) (HK.out _ H5.out.2).1 (HK.out _ H5.out.2).2).mono ?_
    rintro e w6 ⟨rfl, hb6⟩
    have H6 : Hid (IntAt w6 v4 (pmL (readL sig) (digs 65537) (readL key)) /\ Below w.heap.size w w6) := ⟨H5.out.1.below hb6, below_on H5.out.2 hb6⟩
    clear hb6 H5
    go_wp2_with fail
    refine (implReadL_any (pddB s) w6 (by rw [pddB_size]; omega)).mono ?_
    rintro e w7 ⟨v5, rfl, ho7, hb7⟩
    have H7 : Hid (IntAt w7 v4 (pmL (readL sig) (digs 65537) (readL key)) /\ IntAt w7 v5 (readL (pddB s)) /\ Below w.heap.size w w7) := ⟨H6.out.1.below hb7, ho7.at, below_on H6.out.2 hb7⟩
    clear ho7 hb7 H6
    go_wp2_with fail
    refine (slicesEq_any v4 v5 _ _ w7 (by have := pmL_len (readL sig) (digs 65537) (readL key); omega) (by have := readL_len2 (pddB s); omega) H7.out.1 H7.out.2.1).mono ?_
    rintro e w8 ⟨rfl, hb8⟩
    have H8 : Hid (Below w.heap.size w w8) := below_on H7.out.2.2 hb8
    clear hb8 H7
    go_wp2_with fail
    go_ret
    exact ⟨by rw [HN.out]; rfl, H8.out⟩
   ·have HN : Hid (sokB key s sig = false) := sok_great h3
    have hcm : (0 : Int) <= cmpI (ev (readL sig)) (ev (readL key)) := by have := cmpI_nonneg.2 (show ev (readL key) <= ev (readL sig) by omega); omega
    generalize cmpI (ev (readL sig)) (ev (readL key)) = c at *
    clear h3
    go_wp2_with fail
    go_ret
    exact ⟨by rw [HN.out]; rfl, H3.out.2.2⟩
  ·have HN : Hid (sokB key s sig = false) := sok_no fun h => h2 h.2
   have h1i : (key.size : Int) = 15 := by omega
   have h2i : ¬ (sig.size : Int) = 15 := by omega
   go_enter Tryz.func23, Tryz.ntmps23
   go_wp2_with fail
   go_ret
   exact ⟨by rw [HN.out]; rfl, Below.refl _ _⟩
 ·have HN : Hid (sokB key s sig = false) := sok_no fun h => h1 h.1
  have h1i : ¬ (key.size : Int) = 15 := by omega
  go_enter Tryz.func23, Tryz.ntmps23
  go_wp2_with fail
  go_ret
  exact ⟨by rw [HN.out]; rfl, Below.refl _ _⟩
end Go.Proofs.YtjgbmnhoajiabaaGreatDoor
