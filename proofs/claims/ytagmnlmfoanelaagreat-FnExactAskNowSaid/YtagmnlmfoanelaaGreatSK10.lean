/-
  Texts of the proof.
-/
import Derived.Test.YtagmnlmfoanelaaGreatShelf
import Derived.Laws.IdiomStrings
import Derived.Laws.AppendOwnNone
import Derived.Laws.OwnMore
import Derived.Deep.RegionHeld3
import Derived.Deep.AppendLies
import Derived.Deep.AppendSrc
import Derived.Test.YtagmnlmfoanelaaGreatSK9
set_option maxRecDepth 100000
set_option maxHeartbeats 25600000
namespace Go.Proofs.YtagmnlmfoanelaaGreat
open Go.RowKit Der
set_option linter.unusedVariables false
set_option linter.unusedSimpArgs false
theorem plain_any (t : Int) (s : List UInt8) (kv : Value) (w : World) (hs : s.length <= 20000000) :
  Calls Tryz.prog 98 #[.agg #[.int .i64 t, .string ⟨s.toArray⟩, kv]] w fun e w' => e = .returned (.bool (plainOk t s)) /\ Below w.heap.size w w' := by
 have HL := one_laid w (.int .i64 t) (.string ⟨s.toArray⟩) kv 87
 by_cases h1 : t = 1
 ·subst h1
  have HN : Hid (plainOk 1 s = (s == [0] || s == [255])) := rfl
  by_cases e0 : s = [0]
  ·subst e0
   go_enter Tryz.func98, Tryz.ntmps98
   go_wp2_with fail
   go_ret
   exact ⟨by rw [HN.out]; rfl, (HL _ rfl).1⟩
  ·by_cases e1 : s = [255]
   ·subst e1
    go_enter Tryz.func98, Tryz.ntmps98
    go_wp2_with fail
    go_ret
    exact ⟨by rw [HN.out]; rfl, (HL _ rfl).1⟩
   ·have f0 : (s == [0]) = false := by simpa using e0
    have f1 : (s == [255]) = false := by simpa using e1
    have HR : Hid (plainOk 1 s = false) := by show plainOk 1 s = false; rw [HN.out, f0, f1]; rfl
    go_enter Tryz.func98, Tryz.ntmps98
    go_wp2_with fail
    go_ret
    exact ⟨by rw [HR.out]; rfl, (HL _ rfl).1⟩
 by_cases h2 : t = 2
 ·subst h2
  have hsz : (⟨s.toArray⟩ : ByteArray).size = s.length := by show s.toArray.size = _; simp
  by_cases hl : 1 <= s.length /\ s.length <= 5
  ·obtain ⟨b, r, rfl⟩ : ∃ b r, s = b :: r := by
    cases s with
    | nil => simp at hl
    | cons b r => exact ⟨b, r, rfl⟩
   have hg0 : ∀ h, (⟨(b :: r).toArray⟩ : ByteArray)[0]'h = b := fun h => rfl
   by_cases hb : 128 <= b.toNat
   ·have HR : Hid (plainOk 2 (b :: r) = false) := by
     show plainOk 2 (b :: r) = false
     unfold plainOk
     rw [if_neg (by decide), if_pos rfl]
     have : ¬ b < 128 := by rw [UInt8.lt_iff_toNat_lt]; simpa using hb
     simp [this]
    have hbi : (128 : Int) <= (b.toNat : Int) := by omega
    go_enter Tryz.func98, Tryz.ntmps98
    go_wp2_with fail
    refine (in_yes _ 1 5 _ (by simp at hl |-; omega) (by simp at hl |-; omega)).mono ?_
    rintro e w' ⟨rfl, rfl⟩
    go_wp2_with fail
    go_ret
    exact ⟨by rw [HR.out]; rfl, (HL _ rfl).1⟩
   ·have hbi : ¬ (128 : Int) <= (b.toNat : Int) := by omega
    have hblt : b < 128 := by rw [UInt8.lt_iff_toNat_lt]; simpa using hb
    by_cases hb0 : b.toNat = 0
    ·have hb00 : b = 0 := UInt8.toNat_inj.1 (by simpa using hb0)
     subst hb00
     cases r with
     | nil =>
      have HR : Hid (plainOk 2 [0] = true) := by show plainOk 2 [0] = true; decide
      go_enter Tryz.func98, Tryz.ntmps98
      go_wp2_with fail
      refine (in_yes _ 1 5 _ (by simp) (by simp)).mono ?_
      rintro e w' ⟨rfl, rfl⟩
      go_wp2_with fail
      go_ret
      exact ⟨by rw [HR.out]; rfl, (HL _ rfl).1⟩
     | cons c r =>
      have hg1 : ∀ h, (⟨(0 :: c :: r).toArray⟩ : ByteArray)[1]'h = c := fun h => rfl
      have hrl : ¬ ((r.length : Int) + 1 + 1 = 1) := by omega
      have HR : Hid (plainOk 2 (0 :: c :: r) = decide ((128 : Int) <= (c.toNat : Int))) := by
       show plainOk 2 (0 :: c :: r) = _
       unfold plainOk
       rw [if_neg (by decide), if_pos rfl]
       have h5 : r.length + 1 + 1 <= 5 := by simpa using hl.2
       have e : ((128 : UInt8) <= c) = ((128 : Int) <= (c.toNat : Int)) := by
        rw [UInt8.le_iff_toNat_le]
        show (128 <= c.toNat) = _
        exact propext ⟨fun h => by omega, fun h => by omega⟩
       simp [h5, e]
      go_enter Tryz.func98, Tryz.ntmps98
      go_wp2_with fail
      refine (in_yes _ 1 5 _ (by simp at hl |-; omega) (by simp at hl |-; omega)).mono ?_
      rintro e w' ⟨rfl, rfl⟩
      go_wp2_with fail
      go_ret
      exact ⟨by rw [HR.out]; rfl, (HL _ rfl).1⟩
    ·have hbz : ¬ (b.toNat : Int) = 0 := by omega
     have HR : Hid (plainOk 2 (b :: r) = true) := by
      show plainOk 2 (b :: r) = true
      unfold plainOk
      rw [if_neg (by decide), if_pos rfl]
      have h5 : r.length + 1 <= 5 := by simpa using hl.2
      have hne : b ≠ 0 := fun e => hb0 (by rw [e]; rfl)
      simp [hblt, h5, hne]
     go_enter Tryz.func98, Tryz.ntmps98
     go_wp2_with fail
     refine (in_yes _ 1 5 _ (by simp at hl |-; omega) (by simp at hl |-; omega)).mono ?_
     rintro e w' ⟨rfl, rfl⟩
     go_wp2_with fail
     go_ret
     exact ⟨by rw [HR.out]; rfl, (HL _ rfl).1⟩
  ·have HR : Hid (plainOk 2 s = false) := by
    show plainOk 2 s = false
    unfold plainOk
    rw [if_neg (by decide), if_pos rfl]
    by_cases h1 : 1 <= s.length
    ·have h5 : ¬ s.length <= 5 := fun h => hl ⟨h1, h⟩
     simp [h5]
    ·simp [h1]
   go_enter Tryz.func98, Tryz.ntmps98
   go_wp2_with fail
   refine (in_no _ 1 5 _ (by omega)).mono ?_
   rintro e w' ⟨rfl, rfl⟩
   go_wp2_with fail
   go_ret
   exact ⟨by rw [HR.out]; rfl, (HL _ rfl).1⟩
 by_cases h12 : t = 12
 ·subst h12
  obtain ⟨W2, hW2⟩ : ∃ W, W = w.alloc (Obj.cells #[Value.int IntKind.i64 12, Value.string { data := s.toArray }, kv] 87) := ⟨_, rfl⟩
  have HW := HL W2 hW2
  have c1 := HW.2.2.2.1
  have hb := HW.1
  have hsz : (⟨s.toArray⟩ : ByteArray).size = s.length := by show s.toArray.size = _; simp
  go_enter Tryz.func98, Tryz.ntmps98
  go_wp2_with fail
  rw [<- hW2]
  clear HL hW2 HW
  go_loopw [3] (fun iv wr => ∃ k : Nat, k <= s.length /\ iv = .int .i64 (k : Int) /\ wr = W2 /\ Hid (∀ j (hj : j < s.length), j < k -> 32 <= s[j].toNat /\ s[j].toNat <= 126)) (fun iv _ => s.length - (intOf iv).toNat)
  case atStart => exact ⟨0, Nat.zero_le _, rfl, rfl, fun j _ h => absurd h (Nat.not_lt_zero _)⟩
  case round =>
   obtain ⟨k, hk, rfl, rfl, HP⟩ := hrel
   by_cases hlt : k < s.length
   ·have hlti : (k : Int) < (s.length : Int) := by omega
    have hk0 : (0 : Int) <= (k : Int) := by omega
    obtain ⟨b, hbk⟩ := zE (s[k])
    have hgk : ∀ h, (⟨s.toArray⟩ : ByteArray)[k]'h = b := fun h => by rw [<- hbk]; rfl
    by_cases hok : 32 <= b.toNat /\ b.toNat <= 126
    ·have HN : Hid (∀ j (hj : j < s.length), j < k + 1 -> 32 <= s[j].toNat /\ s[j].toNat <= 126) := fun j hj hjk => by
      by_cases e : j = k
      ·subst e; rw [hbk]; exact hok
      ·exact HP.out j hj (by omega)
     have h1 : ¬ (b.toNat : Int) < 32 := by omega
     have h2 : ¬ (126 : Int) < (b.toNat : Int) := by omega
     clear hbk HP hok
     go_wp2_with fail
     go_roundw
     case rel => exact ⟨k + 1, by omega, by go_num, by trivial, HN.out⟩
     case measure => simp [intOf]; omega
    ·have HR : Hid (plainOk 12 s = false) := by
      show plainOk 12 s = false
      unfold plainOk
      rw [if_neg (by decide), if_neg (by decide), if_pos rfl, List.all_eq_false]
      refine ⟨s[k], List.getElem_mem hlt, ?_⟩
      rw [hbk]
      simp only [Bool.and_eq_true, decide_eq_true_eq, UInt8.le_iff_toNat_le]
      exact fun h => hok ⟨h.1, h.2⟩
     clear HP
     by_cases h1 : (b.toNat : Int) < 32
     ·go_wp2_with fail
      go_ret
      exact ⟨by rw [HR.out]; rfl, hb⟩
     ·have h2 : (126 : Int) < (b.toNat : Int) := by omega
      go_wp2_with fail
      go_ret
      exact ⟨by rw [HR.out]; rfl, hb⟩
   ·have hlti : ¬ (k : Int) < (s.length : Int) := by omega
    have HR : Hid (plainOk 12 s = true) := by
     show plainOk 12 s = true
     unfold plainOk
     rw [if_neg (by decide), if_neg (by decide), if_pos rfl, List.all_eq_true]
     intro b hbm
     obtain ⟨j, hj, rfl⟩ := List.getElem_of_mem hbm
     have := HP.out j hj (by omega)
     simp only [Bool.and_eq_true, decide_eq_true_eq, UInt8.le_iff_toNat_le]
     exact this
    go_wp2_with fail
    go_ret
    exact ⟨by rw [HR.out]; rfl, hb⟩
 ·have HN : Hid (plainOk t s = decide (t = 4)) := by
   show plainOk t s = decide (t = 4)
   unfold plainOk
   rw [if_neg h1, if_neg h2, if_neg h12]
  go_enter Tryz.func98, Tryz.ntmps98
  go_wp2_with fail
  go_ret
  exact ⟨by rw [HN.out]; rfl, (HL _ rfl).1⟩
def RightC (n : Nat) : Prop := ∀ (x : It n) (v : Value) (d : Nat) (w : World), ItAt w n v x -> szI n x <= 20000000 -> d <= 6 -> Calls Tryz.prog 80 #[v, .int .i64 (d : Int)] w fun e w' => e = .returned (.bool (rightI n x d)) /\ Below w.heap.size w w'
theorem right_step (n : Nat) (IH : Hid (RightC n)) (t : Int) (s : List UInt8) (ks : List (It n)) (a : Value) (d : Nat) (w : World) (hx : KidsAt w (ItAt w n) a ks) (hz : szI (n + 1) (It.mk t s ks) <= 20000000) (hd : d <= 6) :
  Calls Tryz.prog 80 #[.agg #[.int .i64 t, .string ⟨s.toArray⟩, a], .int .i64 (d : Int)] w fun e w' => e = .returned (.bool (rightI (n + 1) (It.mk t s ks) d)) /\ Below w.heap.size w w' := by
 have hx0 := hx
 obtain ⟨ax, cx, rfl, _⟩ := hx0
 have hsz := szI_kid hz
 obtain ⟨l, hle⟩ := zE (ks.length)
 have HE : Hid (ks.length = l /\ szI (n + 1) (It.mk t s ks) <= 20000000) := ⟨hle, hz⟩
 have hlb : l <= 20000000 := by rw [<- hle]; exact hsz.2.1
 rw [hle] at hx |-
 have HX : Hid (KidsAt w (ItAt w n) (.slice ax l cx) ks) := hx
 have HL := one_laid w (.int .i64 t) (.string ⟨s.toArray⟩) (.slice ax l cx) 87
 have HN : Hid (rightI (n + 1) (It.mk t s ks) d = (if t ≠ 48 then decide (ks.length = 0) && plainOk t s else decide (s.length = 0) && decide (ks.length <= 40) && decide (d < 6) && ks.all fun y => rightI n y (d + 1))) := rfl
 obtain ⟨W2, hW2⟩ : ∃ W, W = w.alloc (Obj.cells #[Value.int IntKind.i64 t, Value.string { data := s.toArray }, Value.slice ax l cx] 87) := ⟨_, rfl⟩
 have HW := HL W2 hW2
 have HW2 := zH (zJ HW.1 (zJ HW.2.1 HW.2.2.2.2))
 clear hx hz hle
 by_cases h48 : t = 48
 ·subst h48
  have hssz : (⟨s.toArray⟩ : ByteArray).size = s.length := by show s.toArray.size = _; simp
  by_cases hs0 : s = []
  ·subst hs0
   by_cases hl40 : l <= 40
   ·by_cases hd6 : d < 6
    ·have hl40i : ¬ (40 : Int) < (l : Int) := by omega
     have hd6i : ¬ (6 : Int) <= (d : Int) := by omega
     have hdw : IntKind.i64.wrap ((d : Int) + 1) = ((d + 1 : Nat) : Int) := by rw [IntKind.wrap_i64]; omega
     have HR0 : Hid (rightI (n + 1) (It.mk 48 [] ks) d = ks.all fun y => rightI n y (d + 1)) := by
      show rightI (n + 1) (It.mk 48 [] ks) d = _
      rw [HN.out, HE.out.1]
      simp [hl40, hd6]
     clear HL HW hsz
     go_enter Tryz.func80, Tryz.ntmps80
     go_wp2_with fail
     rw [<- hW2]
     clear hW2
     go_loopw [5] (fun iv wr => ∃ k : Nat, k <= l /\ iv = .int .i64 (k : Int) /\ Hid (Below W2.heap.size W2 wr /\ ∀ j (hj : j < ks.length), j < k -> rightI n ks[j] (d + 1) = true)) (fun iv _ => l - (intOf iv).toNat)
     case atStart => exact ⟨0, Nat.zero_le _, rfl, Below.refl _ _, fun j _ h => absurd h (Nat.not_lt_zero _)⟩
     case round =>
      obtain ⟨k, hk, rfl, HB⟩ := hrel
      have p1 : wr.cell? ⟨w.heap.size, 2, none⟩ = some (.slice ax l cx) := (HB.out.1.cell (p := ⟨w.heap.size, 2, none⟩) HW2.out.2.1).trans HW2.out.2.2
      have HWR : Hid (Below w.heap.size w wr) := HW2.out.1.trans (HB.out.1.mono HW2.out.1.size)
      by_cases hlt : k < l
      ·have hlti : (k : Int) < (l : Int) := by omega
       have hk0 : (0 : Int) <= (k : Int) := by omega
       have hj1 : k < ks.length := by rw [HE.out.1]; exact hlt
       obtain ⟨g1, o1, t1, s1, k1, hax, hg1, hc1, hi1⟩ := HX.out.get hj1
       obtain ⟨c10, c11, c12⟩ := Cells3.below (w' := wr) (t := t1) (s := s1) (k := k1) hc1 hg1 HWR.out
       have HR := IH.out ks[k] (.agg #[t1, s1, k1]) (d + 1) wr (ItAt.below HWR.out hi1) ((szI_kid HE.out.2).2.2 _ (List.getElem_mem hj1)) (by omega)
       rw [show ((d + 1 : Nat) : Int) = (d : Int) + 1 by omega] at HR
       subst hax
       clear hc1 hi1 hg1
       cases hb : rightI n ks[k] (d + 1) with
       | true =>
        rw [hb] at HR
        have HT : Hid (∀ j (hj : j < ks.length), j < k + 1 -> rightI n ks[j] (d + 1) = true) := fun j hj hjk => by
         by_cases e : j = k
         ·subst e; exact hb
         ·exact HB.out.2 j hj (by omega)
        clear hb
        go_wp2_with fail
        refine HR.mono ?_
        rintro e w3 ⟨rfl, hb3⟩
        have H3 : Hid (Below W2.heap.size W2 w3) := HB.out.1.trans (hb3.mono HB.out.1.size)
        clear HR hb3 c10 c11 c12 p1
        go_wp2_with fail
        exact ⟨⟨k + 1, by omega, by go_num, H3.out, HT.out⟩, by simp [intOf]; omega⟩
       | false =>
        rw [hb] at HR
        have HF : Hid (rightI (n + 1) (It.mk 48 [] ks) d = false) := by
         show rightI (n + 1) (It.mk 48 [] ks) d = false
         rw [HR0.out, List.all_eq_false]
         exact ⟨ks[k], List.getElem_mem hj1, by rw [hb]; simp⟩
        clear hb
        go_wp2_with fail
        refine HR.mono ?_
        rintro e w3 ⟨rfl, hb3⟩
        have H3 : Hid (Below w.heap.size w w3) := HWR.out.trans (hb3.mono HWR.out.size)
        clear HR hb3 c10 c11 c12 p1
        go_wp2_with fail
        go_ret
        exact ⟨by rw [HF.out]; rfl, H3.out⟩
      ·have hlti : ¬ (k : Int) < (l : Int) := by omega
       have HF : Hid (rightI (n + 1) (It.mk 48 [] ks) d = true) := by
        show rightI (n + 1) (It.mk 48 [] ks) d = true
        rw [HR0.out, List.all_eq_true]
        intro y hy
        obtain ⟨j, hj, rfl⟩ := List.getElem_of_mem hy
        exact HB.out.2 j hj (by have := HE.out.1; omega)
       go_wp2_with fail
       go_ret
       exact ⟨by rw [HF.out]; rfl, HWR.out⟩
    ·have hl40i : ¬ (40 : Int) < (l : Int) := by omega
     have hd6i : (6 : Int) <= (d : Int) := by omega
     have HF : Hid (rightI (n + 1) (It.mk 48 [] ks) d = false) := by
      show rightI (n + 1) (It.mk 48 [] ks) d = false
      rw [HN.out]
      simp [hd6]
     go_enter Tryz.func80, Tryz.ntmps80
     go_wp2_with fail
     go_ret
     exact ⟨by rw [HF.out]; rfl, (HL _ rfl).1⟩
   ·have hl40i : (40 : Int) < (l : Int) := by omega
    have HF : Hid (rightI (n + 1) (It.mk 48 [] ks) d = false) := by
     show rightI (n + 1) (It.mk 48 [] ks) d = false
     rw [HN.out, HE.out.1]
     simp [hl40]
    go_enter Tryz.func80, Tryz.ntmps80
    go_wp2_with fail
    go_ret
    exact ⟨by rw [HF.out]; rfl, (HL _ rfl).1⟩
  ·have hsn : (s == []) = false := by simpa using hs0
   have hsl : ¬ s.length = 0 := fun h => hs0 (List.eq_nil_of_length_eq_zero h)
   have HF : Hid (rightI (n + 1) (It.mk 48 s ks) d = false) := by
    show rightI (n + 1) (It.mk 48 s ks) d = false
    rw [HN.out]
    simp [hsl]
   go_enter Tryz.func80, Tryz.ntmps80
   go_wp2_with fail
   go_ret
   exact ⟨by rw [HF.out]; rfl, (HL _ rfl).1⟩
 ·have h48b : (t != 48) = true := by simpa using h48
  by_cases hl0 : l = 0
  ·subst hl0
   have HF : Hid (rightI (n + 1) (It.mk t s ks) d = plainOk t s) := by
    show rightI (n + 1) (It.mk t s ks) d = plainOk t s
    rw [HN.out, HE.out.1, if_pos h48]
    simp
   have EP := plain_any t s (.slice ax 0 cx) W2 hsz.1
   obtain ⟨P, hP⟩ := zE (plainOk t s)
   rw [hP] at EP HF
   clear hP HL
   go_enter Tryz.func80, Tryz.ntmps80
   go_wp2_with fail
   rw [<- hW2]
   refine EP.mono ?_
   rintro e w3 ⟨rfl, hb3⟩
   have H3 : Hid (Below w.heap.size w w3) := HW2.out.1.trans (hb3.mono HW2.out.1.size)
   clear hb3 EP HW hW2
   go_wp2_with fail
   go_ret
   exact ⟨by rw [HF.out]; rfl, H3.out⟩
  ·have hl0i : ¬ (l : Int) = 0 := by omega
   have HF : Hid (rightI (n + 1) (It.mk t s ks) d = false) := by
    show rightI (n + 1) (It.mk t s ks) d = false
    rw [HN.out, HE.out.1, if_pos h48]
    simp [hl0]
   go_enter Tryz.func80, Tryz.ntmps80
   go_wp2_with fail
   go_ret
   exact ⟨by rw [HF.out]; rfl, (HL _ rfl).1⟩
theorem itRight_any : ∀ (n : Nat), RightC n
 | 0 => fun _ _ _ _ h _ _ => h.elim
 | n + 1 => fun x v d w hx hz hd => by
  obtain ⟨kx, rfl, hkx⟩ := hx
  exact right_step n (itRight_any n) (It.tag x) (It.text x) (It.kids x) kx d w hkx hz hd
theorem ItAt.parts {w : World} : ∀ {n : Nat} {v : Value} {x : It n}, ItAt w n v x -> ∃ (t : Int) (s : ByteArray) (ao : Option Addr) (l cap : Nat), v = .agg #[.int .i64 t, .string s, .slice ao l cap]
 | 0, _, _, h => h.elim
 | _ + 1, _, x, ⟨k, hv, hk⟩ => by
  obtain ⟨ao, cap, rfl, _⟩ := hk
  exact ⟨_, _, _, _, _, hv⟩
theorem specItemOk_any (n : Nat) (x : It n) (v : Value) (w : World) (hx : ItAt w n v x) (hz : szI n x <= 20000000) : Calls Tryz.prog 65 #[v] w fun e w' => e = .returned (.bool (rightI n x 0)) /\ Below w.heap.size w w' := by
 obtain ⟨t, s, ao, l, cap, rfl⟩ := hx.parts
 obtain ⟨W2, hW2⟩ : ∃ W, W = w.alloc (Obj.cells #[Value.int IntKind.i64 t, Value.string s, Value.slice ao l cap] 87) := ⟨_, rfl⟩
 have HW := one_laid w (.int .i64 t) (.string s) (.slice ao l cap) 87 W2 hW2
 have E := itRight_any n x _ 0 W2 (ItAt.below HW.1 hx) hz (by omega)
 obtain ⟨P, hP⟩ := zE (rightI n x 0)
 rw [hP] at E |-
 clear hP hx hz
 go_enter Tryz.func65, Tryz.ntmps65
 go_wp2_with fail
 rw [<- hW2]
 refine E.mono ?_
 rintro e w3 ⟨rfl, hb3⟩
 have H3 : Hid (Below w.heap.size w w3) := HW.1.trans (hb3.mono HW.1.size)
 clear hb3 E HW hW2
 go_wp2_with fail
 go_ret
 exact ⟨rfl, H3.out⟩
end Go.Proofs.YtagmnlmfoanelaaGreat
namespace Go.Proofs.YtagmnlmfoanelaaGreat
open Go.RowKit Der
theorem cloneB_any (s : ByteArray) (w : World) (hs : s.size <= 1000000000000) : Calls Tryz.prog 56 #[.string s] w fun e w' => e = .returned (.string s) /\ Below w.heap.size w w' := by
 go_enter Tryz.func56, Tryz.ntmps56
 go_wp2_with (go_at_call 75; refine (Tryz.stringslite_Clone s _ (by omega)).mono ?_; rintro e w1 ⟨rfl, hb1⟩)
 go_ret
 exact ⟨rfl, hb1⟩
def lineB (l : List UInt8) : Bool := l.all fun b => decide (32 <= b) && decide (b <= 126)
theorem lineB_bad {s : ByteArray} {k : Nat} (hk : k < s.size) (h : s[k].toNat < 32 ∨ 126 < s[k].toNat) : lineB s.data.toList = false := by
 unfold lineB
 rw [List.all_eq_false]
 refine ⟨s[k], ?_, ?_⟩
 ·rw [List.mem_iff_getElem]
  exact ⟨k, by simpa using hk, rfl⟩
 ·simp only [Bool.and_eq_true, decide_eq_true_eq, UInt8.le_iff_toNat_le]
  intro h2
  have h3 : (32 : UInt8).toNat = 32 := rfl
  have h4 : (126 : UInt8).toNat = 126 := rfl
  omega
theorem lineB_ok {s : ByteArray} (h : ∀ k (hk : k < s.size), 32 <= s[k].toNat /\ s[k].toNat <= 126) : lineB s.data.toList = true := by
 unfold lineB
 rw [List.all_eq_true]
 intro b hb
 obtain ⟨k, hk, rfl⟩ := List.getElem_of_mem hb
 have := h k (by simpa using hk)
 simp only [Bool.and_eq_true, decide_eq_true_eq, UInt8.le_iff_toNat_le]
 exact this
theorem plainLineB_any (s : ByteArray) (w : World) (hs : s.size <= 1000000000000) : Calls Tryz.prog 109 #[.string s] w fun e w' => e = .returned (.bool (lineB s.data.toList)) /\ Below w.heap.size w w' := by
 have hcv := fun w => run_bytes_of_string (P := Tryz.prog) w 9 107 5 s Tryz.underlying9 Tryz.underlying107 Tryz.underlying5
 go_enter Tryz.func109, Tryz.ntmps109
 go_wp2
 generalize hC : grownCap w s.size 0 5 = C
 have HCell : Hid (∀ j (hj : j < s.size), ((w.alloc (.cells (bytesRow s C) 5 ((bytesRow s C).size, (bytesRow s C).size + 1))).drew).cell? ⟨w.heap.size, j, none⟩ = some (.int .u8 ((s[j]'hj).toNat : Int))) := fun j hj => by
  show (w.alloc (.cells (bytesRow s C) 5 ((bytesRow s C).size, (bytesRow s C).size + 1))).cell? ⟨w.heap.size, j, none⟩ = _
  rw [World.cell?_alloc_mark, bytesRow_at s C j hj]; rfl
 clear hC hcv
 go_loopw [8] (fun iv wr => ∃ k : Nat, k <= s.size /\ iv = .int .i64 k /\ Hid (∀ j (hj : j < s.size), j < k -> 32 <= s[j].toNat /\ s[j].toNat <= 126) /\ (w.alloc (.cells (bytesRow s C) 5 ((bytesRow s C).size, (bytesRow s C).size + 1))).drew = wr) (fun iv _ => s.size - (intOf iv).toNat)
 case atStart => exact ⟨0, Nat.zero_le _, rfl, fun j _ h => absurd h (Nat.not_lt_zero _), rfl⟩
 case round =>
  obtain ⟨k, hk, rfl, HP, rfl⟩ := hrel
  by_cases hlt : k < s.size
  ·have hc := s[k].toNat_lt
   have hck : (w.alloc (.cells (bytesRow s C) 5 ((bytesRow s C).size, (bytesRow s C).size + 1))).cell? ⟨w.heap.size, k, none⟩ = some (.int .u8 (s[k].toNat : Int)) := HCell.out k hlt
   by_cases h1 : s[k].toNat < 32
   ·have HF : Hid (lineB s.data.toList = false) := lineB_bad hlt (.inl h1)
    go_wp2
    go_ret
    exact ⟨by rw [HF.out]; rfl, ((Below.refl _ _).alloc (Nat.le_refl _) _).drew⟩
   ·by_cases h2 : 126 < s[k].toNat
    ·have HF : Hid (lineB s.data.toList = false) := lineB_bad hlt (.inr h2)
     go_wp2
     go_ret
     exact ⟨by rw [HF.out]; rfl, ((Below.refl _ _).alloc (Nat.le_refl _) _).drew⟩
    ·have HN : Hid (∀ j (hj : j < s.size), j < k + 1 -> 32 <= s[j].toNat /\ s[j].toNat <= 126) := fun j hj hjk => by
      by_cases e : j = k
      ·subst e; omega
      ·exact HP.out j hj (by omega)
     go_wp2
     go_roundw
     case rel => exact ⟨k + 1, by omega, by go_num, HN, by first | rfl | trivial⟩
     case measure => simp [intOf]; omega
  ·have HF : Hid (lineB s.data.toList = true) := lineB_ok fun j hj => HP.out j hj (by omega)
   go_wp2
   go_ret
   exact ⟨by rw [HF.out]; rfl, ((Below.refl _ _).alloc (Nat.le_refl _) _).drew⟩
end Go.Proofs.YtagmnlmfoanelaaGreat
namespace Go.Proofs.YtagmnlmfoanelaaGreat
open Go.RowKit
set_option linter.unusedVariables false
def ShS {α : Type} (k : Kd α) (w : World) (v : Value) (l : List α) : Prop := RowS k.K w.heap.size (fun u c => k.Own w 0 u c) w v l /\ ∀ n cap, v = .slice none n cap -> cap = 0
theorem ShS.shape {α : Type} {k : Kd α} {w : World} {v : Value} {l : List α} (h : ShS k w v l) : ∃ ao cap, v = .slice ao l.length cap := h.1.shape
theorem OwnS.sh {α : Type} {k : Kd α} {w : World} {base : Nat} {v : Value} {l : List α} {fp : List Nat} (h : OwnS k w base v l fp) : ShS k w v l := by
 obtain ⟨vs, hl, hr, he, hf, hn⟩ := h
 have hlt := hr.lt
 have hsz := OwnS.sizes hl he
 have hr' := hr
 rcases hr.2 with ⟨hv, h0⟩ | ⟨g, cap, cur, hv, hbg, hg, hnc, hcm, hcs, htk⟩
 ·exact ⟨⟨none, 0, by rw [hv, h0], fun j hj => by omega⟩, fun n cap e => by rw [hv] at e; injection e with _ _ e; exact e.symm⟩
 ·refine ⟨⟨some ⟨g, 0, none⟩, cap, hv, fun j hj => ⟨g, 0, vs[j]'(by omega), rfl, (hlt g (by rw [hv]; rfl)).2, k.base (he j (by omega) hj) (Nat.zero_le _), hsz _ (List.getElem_mem _), fun i x hx => ?_⟩⟩, fun n cap e => by rw [hv] at e; injection e with e; cases e⟩
  have hi : i < k.K := by
   have := (Array.getElem?_eq_some_iff.1 hx).1
   rw [hsz _ (List.getElem_mem _)] at this
   exact this
  rw [hv] at hr'
  have hjK : j * k.K + i < l.length * k.K := by
   have := Nat.mul_le_mul_right k.K (show j + 1 <= l.length by omega)
   rw [Nat.succ_mul] at this
   omega
  rw [Nat.zero_add, World.ownsRow.cellAt hr' _ hjK, cellsV_at hsz j (by omega) i hi]
  exact hx
theorem ShS.below {α : Type} {k : Kd α} {w w' : World} {v : Value} {l : List α} (h : ShS k w v l) (hb : Below w.heap.size w w') : ShS k w' v l := ⟨RowS.below h.1 hb (fun _ _ hP => k.same hP fun g hg => hb.block g (k.lt hP g hg).2) hb.size, h.2⟩
end Go.Proofs.YtagmnlmfoanelaaGreat
