/-
  Texts of the proof.
-/
import Derived.Lib.LaidU8
import Derived.Laws.StructEq
import Derived.Laws.Rows
import Derived.Test.YtjgbmnhoajiabaaGreatDoorSH1
import Derived.Maps.AppendAt
import Derived.Test.YtjgbmnhoajiabaaGreatDoorSQ39
set_option maxRecDepth 100000
namespace Go.Proofs.YtjgbmnhoajiabaaGreatDoor
open Go.RowKit
def sokB (key s sig : ByteArray) : Bool := if key.size = 15 /\ sig.size = 15 then (if ev (readL sig) < ev (readL key) then pmL (readL sig) (digs 65537) (readL key) == readL (pddB s) else false) else false
theorem readL_ok (s : ByteArray) : okL (readL s) = true := by
 have h1 := readL_len2 s
 unfold readL at *
 split at h1
 ·rename_i h
  rw [if_pos h]
  exact (okL_iff _).2 ⟨h1, dig_digs _, top_digs _⟩
 ·rename_i h
  rw [if_neg h]
  decide
theorem readL_wd (s : ByteArray) : Wd (readL s) := (okL_true (readL_ok s)).2.1.wd
theorem pmL_ok (a e m : List Int) : Dig (pmL a e m) /\ Top (pmL a e m) := by
 unfold pmL
 split
 ·exact ⟨dig_digs _, top_digs _⟩
 ·exact ⟨fun x hx => by simp at hx, fun h => by simp at h⟩
theorem cmp_read (a b : ByteArray) : cmpL (readL a) (readL b) = cmpI (ev (readL a)) (ev (readL b)) := if_pos ⟨readL_ok a, readL_ok b⟩
theorem slicesEq_any (a b : Value) (la lb : List Int) (w : World) (hla : la.length <= 10000000) (hlb : lb.length <= 10000000) (ha : IntAt w a la) (hb : IntAt w b lb) :
  Calls Tryz.prog 114 #[a, b] w fun e w' => e = .returned (.bool (la == lb)) /\ Below w.heap.size w w' := by
 obtain ⟨ao, ac, rfl, ha⟩ := ha
 obtain ⟨bo, bc, rfl, hb⟩ := hb
 by_cases hl : la.length = lb.length
 ·by_cases h0 : la.length = 0
  ·have e1 : la = [] := List.eq_nil_of_length_eq_zero h0
   have e2 : lb = [] := List.eq_nil_of_length_eq_zero (hl ▸ h0)
   subst e1 e2
   refine (Tryz.slices_Equal_int_empty ao bo ac 0 bc w (by omega)).mono ?_
   rintro e w' ⟨rfl, rfl⟩
   exact ⟨rfl, Below.refl _ _⟩
  ·obtain ⟨g1, rfl, _, hc1⟩ := ha (by omega)
   obtain ⟨g2, rfl, _, hc2⟩ := hb (by omega)
   refine (Tryz.slices_Equal_int g1 0 la.length ac g2 0 lb.length bc la lb w (Nat.le_refl _) (Nat.le_refl _) (by omega) (by omega) (fun j hj => ?_) (fun j hj => ?_)).mono ?_
   ·rw [Nat.zero_add, hc1 j hj]; simp [List.getD, hj]
   ·rw [Nat.zero_add, hc2 j hj]; simp [List.getD, hj]
   ·rintro e w' ⟨rfl, q, rfl⟩
    exact ⟨by rw [List.take_length, List.take_length], ⟨rfl, rfl, rfl, Nat.le_refl _, fun _ _ => rfl⟩⟩
 ·refine (Tryz.slices_Equal_int_lens ao bo la.length ac lb.length bc w hl).mono ?_
  rintro e w' ⟨rfl, rfl⟩
  have hne : (la == lb) = false := by
   rw [beq_eq_false_iff_ne]
   exact fun e => hl (by rw [e])
  exact ⟨by rw [hne], Below.refl _ _⟩
theorem sok_no {key s sig : ByteArray} (h : ¬ (key.size = 15 /\ sig.size = 15)) : sokB key s sig = false := if_neg h
theorem sok_great {key s sig : ByteArray} (h : ¬ ev (readL sig) < ev (readL key)) : sokB key s sig = false := by
 unfold sokB
 rw [if_neg h]
 split <;> rfl
theorem sok_is {key s sig : ByteArray} (h : key.size = 15 /\ sig.size = 15) (h2 : ev (readL sig) < ev (readL key)) : sokB key s sig = (pmL (readL sig) (digs 65537) (readL key) == readL (pddB s)) := by
 unfold sokB
 rw [if_pos h, if_pos h2]
theorem exp_ok : (digs 65537).length <= 10000000 /\ Wd (digs 65537) := ⟨by have := digs_len64 (n := 65537) (by decide); omega, (dig_digs _).wd⟩
set_option maxHeartbeats 1600000 in
theorem implSok_any (key s sig : ByteArray) (w : World) (hk : key.size <= 1048576) (hs : s.size <= 1048576) (hg : sig.size <= 1048576) (hT : KeysOk w) (hS : StartOk w) : Calls Tryz.prog 23 #[.string key, .string s, .string sig] w fun e w' => e = .returned (.bool (sokB key s sig)) /\ Below w.heap.size w w' := by
 have HK : Hid (∀ w', Below w.heap.size w w' -> KeysOk w' /\ StartOk w') := fun w' hb => ⟨keysBelow hT w' hb, startBelow hS w' hb⟩
 clear hT hS
 by_cases h1 : key.size = 15
 ·by_cases h2 : sig.size = 15
  ·have E1 := fun W => implReadL_any key W hk
   have h1i : (key.size : Int) = 15 := by omega
   have h2i : (sig.size : Int) = 15 := by omega
   go_enter Tryz.func23, Tryz.ntmps23
   go_wp2_with fail
   refine (E1 _).mono ?_
   clear E1
   rintro e w1 ⟨v1, rfl, ho1, hb1⟩
   have H1 : Hid (IntAt w1 v1 (readL key) /\ Below w.heap.size w w1) := ⟨ho1.at, hb1⟩
   clear ho1 hb1
   go_wp2_with fail
   refine (implReadL_any sig w1 hg).mono ?_
   rintro e w2 ⟨v2, rfl, ho2, hb2⟩
   have H2 : Hid (IntAt w2 v1 (readL key) /\ IntAt w2 v2 (readL sig) /\ Below w.heap.size w w2) := ⟨H1.out.1.below hb2, ho2.at, below_on H1.out.2 hb2⟩
   clear ho2 hb2 H1
   go_wp2_with fail
   refine (implCmp_any v2 v1 _ _ w2 (by have := readL_len2 sig; omega) (by have := readL_len2 key; omega) (readL_wd _) (readL_wd _) H2.out.2.1 H2.out.1).mono ?_
   rintro e w3 ⟨rfl, hb3⟩
   rw [cmp_read]
   have H3 : Hid (IntAt w3 v1 (readL key) /\ IntAt w3 v2 (readL sig) /\ Below w.heap.size w w3) := ⟨H2.out.1.below hb3, H2.out.2.1.below hb3, below_on H2.out.2.2 hb3⟩
   clear hb3 H2
   by_cases h3 : ev (readL sig) < ev (readL key)
   ·have HN : Hid (sokB key s sig = (pmL (readL sig) (digs 65537) (readL key) == readL (pddB s))) := sok_is ⟨h1, h2⟩ h3
    have hcm : ¬ (0 : Int) <= cmpI (ev (readL sig)) (ev (readL key)) := by have := cmpI_neg.2 h3; omega
    generalize cmpI (ev (readL sig)) (ev (readL key)) = c at *
    clear h3
    go_wp2_with fail
    refine (implOf_any 65537 w3 (by decide)).mono ?_
    rintro e w4 ⟨v3, rfl, ho4, hb4⟩
    have H4 : Hid (IntAt w4 v1 (readL key) /\ IntAt w4 v2 (readL sig) /\ IntAt w4 v3 (digs 65537) /\ Below w.heap.size w w4) := ⟨H3.out.1.below hb4, H3.out.2.1.below hb4, ho4.at, below_on H3.out.2.2 hb4⟩
    clear ho4 hb4 H3
    go_wp2_with fail
    refine (implPowMod_any v2 v3 v1 _ _ _ w4 (by have := readL_len2 sig; omega) exp_ok.1 (by have := readL_len2 key; omega) (readL_wd _) exp_ok.2 (readL_wd _) H4.out.2.1 H4.out.2.2.1 H4.out.1).mono ?_
    rintro e w5 ⟨v4, rfl, ho5, hb5⟩
    have H5 : Hid (IntAt w5 v4 (pmL (readL sig) (digs 65537) (readL key)) /\ Below w.heap.size w w5) := ⟨ho5.at, below_on H4.out.2.2.2 hb5⟩
    clear ho5 hb5 H4
    go_wp2_with fail
    refine (implPadded_any s w5 (by omega) (HK.out _ H5.out.2).1 (HK.out _ H5.out.2).2).mono ?_
    rintro e w6 ⟨rfl, hb6⟩
    have H6 : Hid (IntAt w6 v4 (pmL (readL sig) (digs 65537) (readL key)) /\ Below w.heap.size w w6) := ⟨H5.out.1.below hb6, below_on H5.out.2 hb6⟩
    clear hb6 H5
    go_wp2_with fail
    refine (implReadL_any (pddB s) w6 (by rw [pddB_size]; omega)).mono ?_
    rintro e w7 ⟨v5, rfl, ho7, hb7⟩
    have H7 : Hid (IntAt w7 v4 (pmL (readL sig) (digs 65537) (readL key)) /\ IntAt w7 v5 (readL (pddB s)) /\ Below w.heap.size w w7) := ⟨H6.out.1.below hb7, ho7.at, below_on H6.out.2 hb7⟩
    clear ho7 hb7 H6
    go_wp2_with fail
    refine (slicesEq_any v4 v5 _ _ w7 (by have := pmL_len (readL sig) (digs 65537) (readL key); omega) (by have := readL_len2 (pddB s); omega) H7.out.1 H7.out.2.1).mono ?_
    rintro e w8 ⟨rfl, hb8⟩
    have H8 : Hid (Below w.heap.size w w8) := below_on H7.out.2.2 hb8
    clear hb8 H7
    go_wp2_with fail
    go_ret
    exact ⟨by rw [HN.out]; rfl, H8.out⟩
   ·have HN : Hid (sokB key s sig = false) := sok_great h3
    have hcm : (0 : Int) <= cmpI (ev (readL sig)) (ev (readL key)) := by have := cmpI_nonneg.2 (show ev (readL key) <= ev (readL sig) by omega); omega
    generalize cmpI (ev (readL sig)) (ev (readL key)) = c at *
    clear h3
    go_wp2_with fail
    go_ret
    exact ⟨by rw [HN.out]; rfl, H3.out.2.2⟩
  ·have HN : Hid (sokB key s sig = false) := sok_no fun h => h2 h.2
   have h1i : (key.size : Int) = 15 := by omega
   have h2i : ¬ (sig.size : Int) = 15 := by omega
   go_enter Tryz.func23, Tryz.ntmps23
   go_wp2_with fail
   go_ret
   exact ⟨by rw [HN.out]; rfl, Below.refl _ _⟩
 ·have HN : Hid (sokB key s sig = false) := sok_no fun h => h1 h.1
  have h1i : ¬ (key.size : Int) = 15 := by omega
  go_enter Tryz.func23, Tryz.ntmps23
  go_wp2_with fail
  go_ret
  exact ⟨by rw [HN.out]; rfl, Below.refl _ _⟩
end Go.Proofs.YtjgbmnhoajiabaaGreatDoor
namespace Go.Proofs.YtjgbmnhoajiabaaGreatDoor
open Go Go.RowKit Go.Shelf
attribute [local go_sem] Oper.semAt_some
def bitsL (l : List Int) : List Int := if okL l = true then bitsI (ev l) else []
end Go.Proofs.YtjgbmnhoajiabaaGreatDoor
