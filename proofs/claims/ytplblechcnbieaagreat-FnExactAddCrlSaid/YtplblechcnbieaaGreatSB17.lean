/-
  Texts of the proof.
-/
import Derived.Test.YtplblechcnbieaaGreatShelf
import Derived.Laws.IdiomStrings
import Derived.Laws.AppendOwnNone
import Derived.Test.YtplblechcnbieaaGreatSB16
set_option maxRecDepth 100000
set_option maxHeartbeats 25600000
namespace Go.Proofs.YtplblechcnbieaaGreat
open Go.RowKit Der
set_option linter.unusedVariables false
theorem plain_any (t : Int) (s : List UInt8) (kv : Value) (w : World) (hs : s.length <= 20000000) :
  Calls Tryz.prog 150 #[.agg #[.int .i64 t, .string ⟨s.toArray⟩, kv]] w fun e w' => e = .returned (.bool (plainOk t s)) /\ Below w.heap.size w w' := by
 have HL := one_laid w (.int .i64 t) (.string ⟨s.toArray⟩) kv 122
 by_cases h1 : t = 1
 ·subst h1
  have HN : Hid (plainOk 1 s = (s == [0] || s == [255])) := rfl
  by_cases e0 : s = [0]
  ·subst e0
   go_enter Tryz.func150, Tryz.ntmps150
   go_wp2_with fail
   go_ret
   exact ⟨by rw [HN.out]; rfl, (HL _ rfl).1⟩
  ·by_cases e1 : s = [255]
   ·subst e1
    go_enter Tryz.func150, Tryz.ntmps150
    go_wp2_with fail
    go_ret
    exact ⟨by rw [HN.out]; rfl, (HL _ rfl).1⟩
   ·have f0 : (s == [0]) = false := by simpa using e0
    have f1 : (s == [255]) = false := by simpa using e1
    have HR : Hid (plainOk 1 s = false) := by show plainOk 1 s = false; rw [HN.out, f0, f1]; rfl
    go_enter Tryz.func150, Tryz.ntmps150
    go_wp2_with fail
    go_ret
    exact ⟨by rw [HR.out]; rfl, (HL _ rfl).1⟩
 by_cases h2 : t = 2
 ·subst h2
  have hsz : (⟨s.toArray⟩ : ByteArray).size = s.length := by show s.toArray.size = _; simp
  by_cases hl : 1 <= s.length /\ s.length <= 5
  ·obtain ⟨b, r, rfl⟩ : ∃ b r, s = b :: r := by
    cases s with
    | nil => simp at hl
    | cons b r => exact ⟨b, r, rfl⟩
   have hg0 : ∀ h, (⟨(b :: r).toArray⟩ : ByteArray)[0]'h = b := fun h => rfl
   by_cases hb : 128 <= b.toNat
   ·have HR : Hid (plainOk 2 (b :: r) = false) := by
     show plainOk 2 (b :: r) = false
     unfold plainOk
     rw [if_neg (by decide), if_pos rfl]
     have : ¬ b < 128 := by rw [UInt8.lt_iff_toNat_lt]; simpa using hb
     simp [this]
    have hbi : (128 : Int) <= (b.toNat : Int) := by omega
    go_enter Tryz.func150, Tryz.ntmps150
    go_wp2_with fail
    refine (in_yes _ 1 5 _ (by simp at hl |-; omega) (by simp at hl |-; omega)).mono ?_
    rintro e w' ⟨rfl, rfl⟩
    go_wp2_with fail
    go_ret
    exact ⟨by rw [HR.out]; rfl, (HL _ rfl).1⟩
   ·have hbi : ¬ (128 : Int) <= (b.toNat : Int) := by omega
    have hblt : b < 128 := by rw [UInt8.lt_iff_toNat_lt]; simpa using hb
    by_cases hb0 : b.toNat = 0
    ·have hb00 : b = 0 := UInt8.toNat_inj.1 (by simpa using hb0)
     subst hb00
     cases r with
     | nil =>
      have HR : Hid (plainOk 2 [0] = true) := by show plainOk 2 [0] = true; decide
      go_enter Tryz.func150, Tryz.ntmps150
      go_wp2_with fail
      refine (in_yes _ 1 5 _ (by simp) (by simp)).mono ?_
      rintro e w' ⟨rfl, rfl⟩
      go_wp2_with fail
      go_ret
      exact ⟨by rw [HR.out]; rfl, (HL _ rfl).1⟩
     | cons c r =>
      have hg1 : ∀ h, (⟨(0 :: c :: r).toArray⟩ : ByteArray)[1]'h = c := fun h => rfl
      have hrl : ¬ ((r.length : Int) + 1 + 1 = 1) := by omega
      have HR : Hid (plainOk 2 (0 :: c :: r) = decide ((128 : Int) <= (c.toNat : Int))) := by
       show plainOk 2 (0 :: c :: r) = _
       unfold plainOk
       rw [if_neg (by decide), if_pos rfl]
       have h5 : r.length + 1 + 1 <= 5 := by simpa using hl.2
       have e : ((128 : UInt8) <= c) = ((128 : Int) <= (c.toNat : Int)) := by
        rw [UInt8.le_iff_toNat_le]
        show (128 <= c.toNat) = _
        exact propext ⟨fun h => by omega, fun h => by omega⟩
       simp [h5, e]
      go_enter Tryz.func150, Tryz.ntmps150
      go_wp2_with fail
      refine (in_yes _ 1 5 _ (by simp at hl |-; omega) (by simp at hl |-; omega)).mono ?_
      rintro e w' ⟨rfl, rfl⟩
      go_wp2_with fail
      go_ret
      exact ⟨by rw [HR.out]; rfl, (HL _ rfl).1⟩
    ·have hbz : ¬ (b.toNat : Int) = 0 := by omega
     have HR : Hid (plainOk 2 (b :: r) = true) := by
      show plainOk 2 (b :: r) = true
      unfold plainOk
      rw [if_neg (by decide), if_pos rfl]
      have h5 : r.length + 1 <= 5 := by simpa using hl.2
      have hne : b ≠ 0 := fun e => hb0 (by rw [e]; rfl)
      simp [hblt, h5, hne]
     go_enter Tryz.func150, Tryz.ntmps150
     go_wp2_with fail
     refine (in_yes _ 1 5 _ (by simp at hl |-; omega) (by simp at hl |-; omega)).mono ?_
     rintro e w' ⟨rfl, rfl⟩
     go_wp2_with fail
     go_ret
     exact ⟨by rw [HR.out]; rfl, (HL _ rfl).1⟩
  ·have HR : Hid (plainOk 2 s = false) := by
    show plainOk 2 s = false
    unfold plainOk
    rw [if_neg (by decide), if_pos rfl]
    by_cases h1 : 1 <= s.length
    ·have h5 : ¬ s.length <= 5 := fun h => hl ⟨h1, h⟩
     simp [h5]
    ·simp [h1]
   go_enter Tryz.func150, Tryz.ntmps150
   go_wp2_with fail
   refine (in_no _ 1 5 _ (by omega)).mono ?_
   rintro e w' ⟨rfl, rfl⟩
   go_wp2_with fail
   go_ret
   exact ⟨by rw [HR.out]; rfl, (HL _ rfl).1⟩
 by_cases h12 : t = 12
 ·subst h12
  obtain ⟨W2, hW2⟩ : ∃ W, W = w.alloc (Obj.cells #[Value.int IntKind.i64 12, Value.string { data := s.toArray }, kv] 122) := ⟨_, rfl⟩
  have HW := HL W2 hW2
  have c1 := HW.2.2.2.1
  have hb := HW.1
  have hsz : (⟨s.toArray⟩ : ByteArray).size = s.length := by show s.toArray.size = _; simp
  go_enter Tryz.func150, Tryz.ntmps150
  go_wp2_with fail
  rw [<- hW2]
  clear HL hW2 HW
  go_loopw [3] (fun iv wr => ∃ k : Nat, k <= s.length /\ iv = .int .i64 (k : Int) /\ wr = W2 /\ Hid (∀ j (hj : j < s.length), j < k -> 32 <= s[j].toNat /\ s[j].toNat <= 126)) (fun iv _ => s.length - (intOf iv).toNat)
  case atStart => exact ⟨0, Nat.zero_le _, rfl, rfl, fun j _ h => absurd h (Nat.not_lt_zero _)⟩
  case round =>
   obtain ⟨k, hk, rfl, rfl, HP⟩ := hrel
   by_cases hlt : k < s.length
   ·have hlti : (k : Int) < (s.length : Int) := by omega
    have hk0 : (0 : Int) <= (k : Int) := by omega
    obtain ⟨b, hbk⟩ := zE (s[k])
    have hgk : ∀ h, (⟨s.toArray⟩ : ByteArray)[k]'h = b := fun h => by rw [<- hbk]; rfl
    by_cases hok : 32 <= b.toNat /\ b.toNat <= 126
    ·have HN : Hid (∀ j (hj : j < s.length), j < k + 1 -> 32 <= s[j].toNat /\ s[j].toNat <= 126) := fun j hj hjk => by
      by_cases e : j = k
      ·subst e; rw [hbk]; exact hok
      ·exact HP.out j hj (by omega)
     have h1 : ¬ (b.toNat : Int) < 32 := by omega
     have h2 : ¬ (126 : Int) < (b.toNat : Int) := by omega
     clear hbk HP hok
     go_wp2_with fail
     go_roundw
     case rel => exact ⟨k + 1, by omega, by go_num, by trivial, HN.out⟩
     case measure => simp [intOf]; omega
    ·have HR : Hid (plainOk 12 s = false) := by
      show plainOk 12 s = false
      unfold plainOk
      rw [if_neg (by decide), if_neg (by decide), if_pos rfl, List.all_eq_false]
      refine ⟨s[k], List.getElem_mem hlt, ?_⟩
      rw [hbk]
      simp only [Bool.and_eq_true, decide_eq_true_eq, UInt8.le_iff_toNat_le]
      exact fun h => hok ⟨h.1, h.2⟩
     clear HP
     by_cases h1 : (b.toNat : Int) < 32
     ·go_wp2_with fail
      go_ret
      exact ⟨by rw [HR.out]; rfl, hb⟩
     ·have h2 : (126 : Int) < (b.toNat : Int) := by omega
      go_wp2_with fail
      go_ret
      exact ⟨by rw [HR.out]; rfl, hb⟩
   ·have hlti : ¬ (k : Int) < (s.length : Int) := by omega
    have HR : Hid (plainOk 12 s = true) := by
     show plainOk 12 s = true
     unfold plainOk
     rw [if_neg (by decide), if_neg (by decide), if_pos rfl, List.all_eq_true]
     intro b hbm
     obtain ⟨j, hj, rfl⟩ := List.getElem_of_mem hbm
     have := HP.out j hj (by omega)
     simp only [Bool.and_eq_true, decide_eq_true_eq, UInt8.le_iff_toNat_le]
     exact this
    go_wp2_with fail
    go_ret
    exact ⟨by rw [HR.out]; rfl, hb⟩
 ·have HN : Hid (plainOk t s = decide (t = 4)) := by
   show plainOk t s = decide (t = 4)
   unfold plainOk
   rw [if_neg h1, if_neg h2, if_neg h12]
  go_enter Tryz.func150, Tryz.ntmps150
  go_wp2_with fail
  go_ret
  exact ⟨by rw [HN.out]; rfl, (HL _ rfl).1⟩
def RightC (n : Nat) : Prop := ∀ (x : It n) (v : Value) (d : Nat) (w : World), ItAt w n v x -> szI n x <= 20000000 -> d <= 6 -> Calls Tryz.prog 141 #[v, .int .i64 (d : Int)] w fun e w' => e = .returned (.bool (rightI n x d)) /\ Below w.heap.size w w'
theorem right_step (n : Nat) (IH : Hid (RightC n)) (t : Int) (s : List UInt8) (ks : List (It n)) (a : Value) (d : Nat) (w : World) (hx : KidsAt w (ItAt w n) a ks) (hz : szI (n + 1) (It.mk t s ks) <= 20000000) (hd : d <= 6) :
  Calls Tryz.prog 141 #[.agg #[.int .i64 t, .string ⟨s.toArray⟩, a], .int .i64 (d : Int)] w fun e w' => e = .returned (.bool (rightI (n + 1) (It.mk t s ks) d)) /\ Below w.heap.size w w' := by
 have hx0 := hx
 obtain ⟨ax, cx, rfl, _⟩ := hx0
 have hsz := szI_kid hz
 obtain ⟨l, hle⟩ := zE (ks.length)
 have HE : Hid (ks.length = l /\ szI (n + 1) (It.mk t s ks) <= 20000000) := ⟨hle, hz⟩
 have hlb : l <= 20000000 := by rw [<- hle]; exact hsz.2.1
 rw [hle] at hx |-
 have HX : Hid (KidsAt w (ItAt w n) (.slice ax l cx) ks) := hx
 have HL := one_laid w (.int .i64 t) (.string ⟨s.toArray⟩) (.slice ax l cx) 122
 have HN : Hid (rightI (n + 1) (It.mk t s ks) d = (if t ≠ 48 then decide (ks.length = 0) && plainOk t s else decide (s.length = 0) && decide (ks.length <= 40) && decide (d < 6) && ks.all fun y => rightI n y (d + 1))) := rfl
 obtain ⟨W2, hW2⟩ : ∃ W, W = w.alloc (Obj.cells #[Value.int IntKind.i64 t, Value.string { data := s.toArray }, Value.slice ax l cx] 122) := ⟨_, rfl⟩
 have HW := HL W2 hW2
 have HW2 : Hid (Below w.heap.size w W2 /\ w.heap.size < W2.heap.size /\ W2.cell? ⟨w.heap.size, 2, none⟩ = some (.slice ax l cx)) := ⟨HW.1, HW.2.1, HW.2.2.2.2⟩
 clear hx hz hle
 by_cases h48 : t = 48
 ·subst h48
  have hssz : (⟨s.toArray⟩ : ByteArray).size = s.length := by show s.toArray.size = _; simp
  by_cases hs0 : s = []
  ·subst hs0
   by_cases hl40 : l <= 40
   ·by_cases hd6 : d < 6
    ·have hl40i : ¬ (40 : Int) < (l : Int) := by omega
     have hd6i : ¬ (6 : Int) <= (d : Int) := by omega
     have hdw : IntKind.i64.wrap ((d : Int) + 1) = ((d + 1 : Nat) : Int) := by rw [IntKind.wrap_i64]; omega
     have HR0 : Hid (rightI (n + 1) (It.mk 48 [] ks) d = ks.all fun y => rightI n y (d + 1)) := by
      show rightI (n + 1) (It.mk 48 [] ks) d = _
      rw [HN.out, HE.out.1]
      simp [hl40, hd6]
     clear HL HW hsz
     go_enter Tryz.func141, Tryz.ntmps141
     go_wp2_with fail
     rw [<- hW2]
     clear hW2
     go_loopw [5] (fun iv wr => ∃ k : Nat, k <= l /\ iv = .int .i64 (k : Int) /\ Hid (Below W2.heap.size W2 wr /\ ∀ j (hj : j < ks.length), j < k -> rightI n ks[j] (d + 1) = true)) (fun iv _ => l - (intOf iv).toNat)
     case atStart => exact ⟨0, Nat.zero_le _, rfl, Below.refl _ _, fun j _ h => absurd h (Nat.not_lt_zero _)⟩
     case round =>
      obtain ⟨k, hk, rfl, HB⟩ := hrel
      have p1 : wr.cell? ⟨w.heap.size, 2, none⟩ = some (.slice ax l cx) := (HB.out.1.cell (p := ⟨w.heap.size, 2, none⟩) HW2.out.2.1).trans HW2.out.2.2
      have HWR : Hid (Below w.heap.size w wr) := HW2.out.1.trans (HB.out.1.mono HW2.out.1.size)
      by_cases hlt : k < l
      ·have hlti : (k : Int) < (l : Int) := by omega
       have hk0 : (0 : Int) <= (k : Int) := by omega
       have hj1 : k < ks.length := by rw [HE.out.1]; exact hlt
       obtain ⟨g1, o1, t1, s1, k1, hax, hg1, hc1, hi1⟩ := HX.out.get hj1
       obtain ⟨c10, c11, c12⟩ := Cells3.below (w' := wr) (t := t1) (s := s1) (k := k1) hc1 hg1 HWR.out
       have HR := IH.out ks[k] (.agg #[t1, s1, k1]) (d + 1) wr (ItAt.below HWR.out hi1) ((szI_kid HE.out.2).2.2 _ (List.getElem_mem hj1)) (by omega)
       rw [show ((d + 1 : Nat) : Int) = (d : Int) + 1 by omega] at HR
       subst hax
       clear hc1 hi1 hg1
       cases hb : rightI n ks[k] (d + 1) with
       | true =>
        rw [hb] at HR
        have HT : Hid (∀ j (hj : j < ks.length), j < k + 1 -> rightI n ks[j] (d + 1) = true) := fun j hj hjk => by
         by_cases e : j = k
         ·subst e; exact hb
         ·exact HB.out.2 j hj (by omega)
        clear hb
        go_wp2_with fail
        refine HR.mono ?_
        rintro e w3 ⟨rfl, hb3⟩
        have H3 : Hid (Below W2.heap.size W2 w3) := HB.out.1.trans (hb3.mono HB.out.1.size)
        clear HR hb3 c10 c11 c12 p1
        go_wp2_with fail
        exact ⟨⟨k + 1, by omega, by go_num, H3.out, HT.out⟩, by simp [intOf]; omega⟩
       | false =>
        rw [hb] at HR
        have HF : Hid (rightI (n + 1) (It.mk 48 [] ks) d = false) := by
         show rightI (n + 1) (It.mk 48 [] ks) d = false
         rw [HR0.out, List.all_eq_false]
         exact ⟨ks[k], List.getElem_mem hj1, by rw [hb]; simp⟩
        clear hb
        go_wp2_with fail
        refine HR.mono ?_
        rintro e w3 ⟨rfl, hb3⟩
        have H3 : Hid (Below w.heap.size w w3) := HWR.out.trans (hb3.mono HWR.out.size)
        clear HR hb3 c10 c11 c12 p1
        go_wp2_with fail
        go_ret
        exact ⟨by rw [HF.out]; rfl, H3.out⟩
      ·have hlti : ¬ (k : Int) < (l : Int) := by omega
       have HF : Hid (rightI (n + 1) (It.mk 48 [] ks) d = true) := by
        show rightI (n + 1) (It.mk 48 [] ks) d = true
        rw [HR0.out, List.all_eq_true]
        intro y hy
        obtain ⟨j, hj, rfl⟩ := List.getElem_of_mem hy
        exact HB.out.2 j hj (by have := HE.out.1; omega)
       go_wp2_with fail
       go_ret
       exact ⟨by rw [HF.out]; rfl, HWR.out⟩
    ·have hl40i : ¬ (40 : Int) < (l : Int) := by omega
     have hd6i : (6 : Int) <= (d : Int) := by omega
     have HF : Hid (rightI (n + 1) (It.mk 48 [] ks) d = false) := by
      show rightI (n + 1) (It.mk 48 [] ks) d = false
      rw [HN.out]
      simp [hd6]
     go_enter Tryz.func141, Tryz.ntmps141
     go_wp2_with fail
     go_ret
     exact ⟨by rw [HF.out]; rfl, (HL _ rfl).1⟩
   ·have hl40i : (40 : Int) < (l : Int) := by omega
    have HF : Hid (rightI (n + 1) (It.mk 48 [] ks) d = false) := by
     show rightI (n + 1) (It.mk 48 [] ks) d = false
     rw [HN.out, HE.out.1]
     simp [hl40]
    go_enter Tryz.func141, Tryz.ntmps141
    go_wp2_with fail
    go_ret
    exact ⟨by rw [HF.out]; rfl, (HL _ rfl).1⟩
  ·have hsn : (s == []) = false := by simpa using hs0
   have hsl : ¬ s.length = 0 := fun h => hs0 (List.eq_nil_of_length_eq_zero h)
   have HF : Hid (rightI (n + 1) (It.mk 48 s ks) d = false) := by
    show rightI (n + 1) (It.mk 48 s ks) d = false
    rw [HN.out]
    simp [hsl]
   go_enter Tryz.func141, Tryz.ntmps141
   go_wp2_with fail
   go_ret
   exact ⟨by rw [HF.out]; rfl, (HL _ rfl).1⟩
 ·have h48b : (t != 48) = true := by simpa using h48
  by_cases hl0 : l = 0
  ·subst hl0
   have HF : Hid (rightI (n + 1) (It.mk t s ks) d = plainOk t s) := by
    show rightI (n + 1) (It.mk t s ks) d = plainOk t s
    rw [HN.out, HE.out.1, if_pos h48]
    simp
   have EP := plain_any t s (.slice ax 0 cx) W2 hsz.1
   obtain ⟨P, hP⟩ := zE (plainOk t s)
   rw [hP] at EP HF
   clear hP HL
   go_enter Tryz.func141, Tryz.ntmps141
   go_wp2_with fail
   rw [<- hW2]
   refine EP.mono ?_
   rintro e w3 ⟨rfl, hb3⟩
   have H3 : Hid (Below w.heap.size w w3) := HW2.out.1.trans (hb3.mono HW2.out.1.size)
   clear hb3 EP HW hW2
   go_wp2_with fail
   go_ret
   exact ⟨by rw [HF.out]; rfl, H3.out⟩
  ·have hl0i : ¬ (l : Int) = 0 := by omega
   have HF : Hid (rightI (n + 1) (It.mk t s ks) d = false) := by
    show rightI (n + 1) (It.mk t s ks) d = false
    rw [HN.out, HE.out.1, if_pos h48]
    simp [hl0]
   go_enter Tryz.func141, Tryz.ntmps141
   go_wp2_with fail
   go_ret
   exact ⟨by rw [HF.out]; rfl, (HL _ rfl).1⟩
theorem itRight_any : ∀ (n : Nat), RightC n
 | 0 => fun _ _ _ _ h _ _ => h.elim
 | n + 1 => fun x v d w hx hz hd => by
  obtain ⟨kx, rfl, hkx⟩ := hx
  exact right_step n (itRight_any n) (It.tag x) (It.text x) (It.kids x) kx d w hkx hz hd
theorem ItAt.parts {w : World} : ∀ {n : Nat} {v : Value} {x : It n}, ItAt w n v x -> ∃ (t : Int) (s : ByteArray) (ao : Option Addr) (l cap : Nat), v = .agg #[.int .i64 t, .string s, .slice ao l cap]
 | 0, _, _, h => h.elim
 | _ + 1, _, x, ⟨k, hv, hk⟩ => by
  obtain ⟨ao, cap, rfl, _⟩ := hk
  exact ⟨_, _, _, _, _, hv⟩
theorem specItemOk_any (n : Nat) (x : It n) (v : Value) (w : World) (hx : ItAt w n v x) (hz : szI n x <= 20000000) : Calls Tryz.prog 116 #[v] w fun e w' => e = .returned (.bool (rightI n x 0)) /\ Below w.heap.size w w' := by
 obtain ⟨t, s, ao, l, cap, rfl⟩ := hx.parts
 obtain ⟨W2, hW2⟩ : ∃ W, W = w.alloc (Obj.cells #[Value.int IntKind.i64 t, Value.string s, Value.slice ao l cap] 122) := ⟨_, rfl⟩
 have HW := one_laid w (.int .i64 t) (.string s) (.slice ao l cap) 122 W2 hW2
 have E := itRight_any n x _ 0 W2 (ItAt.below HW.1 hx) hz (by omega)
 obtain ⟨P, hP⟩ := zE (rightI n x 0)
 rw [hP] at E |-
 clear hP hx hz
 go_enter Tryz.func116, Tryz.ntmps116
 go_wp2_with fail
 rw [<- hW2]
 refine E.mono ?_
 rintro e w3 ⟨rfl, hb3⟩
 have H3 : Hid (Below w.heap.size w w3) := HW.1.trans (hb3.mono HW.1.size)
 clear hb3 E HW hW2
 go_wp2_with fail
 go_ret
 exact ⟨rfl, H3.out⟩
end Go.Proofs.YtplblechcnbieaaGreat
namespace Go.Proofs.YtplblechcnbieaaGreat
open Go.RowKit Der
theorem cloneB_any (s : ByteArray) (w : World) (hs : s.size <= 1000000000000) : Calls Tryz.prog 137 #[.string s] w fun e w' => e = .returned (.string s) /\ Below w.heap.size w w' := by
 go_enter Tryz.func137, Tryz.ntmps137
 go_wp2_with (go_at_call 149; refine (Tryz.stringslite_Clone s _ (by omega)).mono ?_; rintro e w1 ⟨rfl, hb1⟩)
 go_ret
 exact ⟨rfl, hb1⟩
def lineB (l : List UInt8) : Bool := l.all fun b => decide (32 <= b) && decide (b <= 126)
theorem lineB_bad {s : ByteArray} {k : Nat} (hk : k < s.size) (h : s[k].toNat < 32 ∨ 126 < s[k].toNat) : lineB s.data.toList = false := by
 unfold lineB
 rw [List.all_eq_false]
 refine ⟨s[k], ?_, ?_⟩
 ·rw [List.mem_iff_getElem]
  exact ⟨k, by simpa using hk, rfl⟩
 ·simp only [Bool.and_eq_true, decide_eq_true_eq, UInt8.le_iff_toNat_le]
  intro h2
  have h3 : (32 : UInt8).toNat = 32 := rfl
  have h4 : (126 : UInt8).toNat = 126 := rfl
  omega
theorem lineB_ok {s : ByteArray} (h : ∀ k (hk : k < s.size), 32 <= s[k].toNat /\ s[k].toNat <= 126) : lineB s.data.toList = true := by
 unfold lineB
 rw [List.all_eq_true]
 intro b hb
 obtain ⟨k, hk, rfl⟩ := List.getElem_of_mem hb
 have := h k (by simpa using hk)
 simp only [Bool.and_eq_true, decide_eq_true_eq, UInt8.le_iff_toNat_le]
 exact this
theorem plainLineB_any (s : ByteArray) (w : World) (hs : s.size <= 1000000000000) : Calls Tryz.prog 152 #[.string s] w fun e w' => e = .returned (.bool (lineB s.data.toList)) /\ Below w.heap.size w w' := by
 have hcv := fun w => run_bytes_of_string (P := Tryz.prog) w 9 164 5 s Tryz.underlying9 Tryz.underlying164 Tryz.underlying5
 go_enter Tryz.func152, Tryz.ntmps152
 go_wp2
 generalize hC : grownCap w s.size 0 5 = C
 have HCell : Hid (∀ j (hj : j < s.size), ((w.alloc (.cells (bytesRow s C) 5 ((bytesRow s C).size, (bytesRow s C).size + 1))).drew).cell? ⟨w.heap.size, j, none⟩ = some (.int .u8 ((s[j]'hj).toNat : Int))) := fun j hj => by
  show (w.alloc (.cells (bytesRow s C) 5 ((bytesRow s C).size, (bytesRow s C).size + 1))).cell? ⟨w.heap.size, j, none⟩ = _
  rw [World.cell?_alloc_mark, bytesRow_at s C j hj]; rfl
 clear hC hcv
 go_loopw [8] (fun iv wr => ∃ k : Nat, k <= s.size /\ iv = .int .i64 k /\ Hid (∀ j (hj : j < s.size), j < k -> 32 <= s[j].toNat /\ s[j].toNat <= 126) /\ (w.alloc (.cells (bytesRow s C) 5 ((bytesRow s C).size, (bytesRow s C).size + 1))).drew = wr) (fun iv _ => s.size - (intOf iv).toNat)
 case atStart => exact ⟨0, Nat.zero_le _, rfl, fun j _ h => absurd h (Nat.not_lt_zero _), rfl⟩
 case round =>
  obtain ⟨k, hk, rfl, HP, rfl⟩ := hrel
  by_cases hlt : k < s.size
  ·have hc := s[k].toNat_lt
   have hck : (w.alloc (.cells (bytesRow s C) 5 ((bytesRow s C).size, (bytesRow s C).size + 1))).cell? ⟨w.heap.size, k, none⟩ = some (.int .u8 (s[k].toNat : Int)) := HCell.out k hlt
   by_cases h1 : s[k].toNat < 32
   ·have HF : Hid (lineB s.data.toList = false) := lineB_bad hlt (.inl h1)
    go_wp2
    go_ret
    exact ⟨by rw [HF.out]; rfl, ((Below.refl _ _).alloc (Nat.le_refl _) _).drew⟩
   ·by_cases h2 : 126 < s[k].toNat
    ·have HF : Hid (lineB s.data.toList = false) := lineB_bad hlt (.inr h2)
     go_wp2
     go_ret
     exact ⟨by rw [HF.out]; rfl, ((Below.refl _ _).alloc (Nat.le_refl _) _).drew⟩
    ·have HN : Hid (∀ j (hj : j < s.size), j < k + 1 -> 32 <= s[j].toNat /\ s[j].toNat <= 126) := fun j hj hjk => by
      by_cases e : j = k
      ·subst e; omega
      ·exact HP.out j hj (by omega)
     go_wp2
     go_roundw
     case rel => exact ⟨k + 1, by omega, by go_num, HN, by first | rfl | trivial⟩
     case measure => simp [intOf]; omega
  ·have HF : Hid (lineB s.data.toList = true) := lineB_ok fun j hj => HP.out j hj (by omega)
   go_wp2
   go_ret
   exact ⟨by rw [HF.out]; rfl, ((Below.refl _ _).alloc (Nat.le_refl _) _).drew⟩
end Go.Proofs.YtplblechcnbieaaGreat
namespace Go.Proofs.YtplblechcnbieaaGreat
open Go.RowKit Der
set_option linter.unusedVariables false
theorem ownTexts_any (v : Value) (l : List ByteArray) (w : World) (hl : l.length <= 20000000) (hsz : ∀ s ∈ l, s.size <= 1000000000) (h : TxtAt w v l) :
  Calls Tryz.prog 140 #[v] w fun e w' => ∃ u, e = .returned u /\ OwnT w' w.heap.size u l /\ Below w.heap.size w w' := by
 obtain ⟨i0, hi, hz0, hz1, hz2⟩ := info_parts info9
 obtain ⟨ao, cap, rfl, hc⟩ := h
 obtain ⟨n, hn⟩ := zE (l.length)
 have HC : Hid ((∀ j, j < l.length -> ∃ g, ao = some ⟨g, 0, none⟩ /\ g < w.heap.size /\ w.cell? ⟨g, j, none⟩ = some (.string (l.getD j ByteArray.empty))) /\ l.length = n /\ ∀ s ∈ l, s.size <= 1000000000) := ⟨hc, hn, hsz⟩
 rw [hn] at hl |-
 clear hc hn hsz
 go_enter Tryz.func140, Tryz.ntmps140
 go_wp2_with fail
 go_loopw [3, 8] (fun lv iv wr => ∃ k : Nat, k <= n /\ iv = .int .i64 k /\ Hid (OwnT wr w.heap.size lv (l.take k) /\ Below w.heap.size w wr)) (fun _ iv _ => n - (intOf iv).toNat)
 case atStart => exact ⟨0, Nat.zero_le _, rfl, World.ownsRow_nil _ _ _ _, Below.refl _ _⟩
 case round =>
  obtain ⟨k, hk, rfl, HK⟩ := hrel
  have hlk : (l.take k).length = k := by rw [List.length_take, HC.out.2.1]; omega
  obtain ⟨la, lc, hlv⟩ : ∃ ao cap, u3 = .slice ao (l.take k).length cap := by obtain ⟨ao, cap, h, _⟩ := HK.out.1.at; exact ⟨ao, cap, h⟩
  rw [hlk] at hlv
  subst hlv
  have HLEN : Hid ((l.take k).length = k) := hlk
  clear hlk
  by_cases hlt : k < n
  ·have hki : (k : Int) < (n : Int) := by omega
   have hk0 : (0 : Int) <= (k : Int) := by omega
   have hj : k < l.length := by rw [HC.out.2.1]; exact hlt
   obtain ⟨g, hao, hg, hcx⟩ := HC.out.1 k hj
   have c1 : wr.cell? ⟨g, k, none⟩ = some (.string (l.getD k ByteArray.empty)) := (HK.out.2.cell (p := ⟨g, k, none⟩) hg).trans hcx
   have hmem : l.getD k ByteArray.empty ∈ l := by rw [List.getD_eq_getElem?_getD, List.getElem?_eq_getElem hj]; exact List.getElem_mem _
   have hxs := HC.out.2.2 _ hmem
   have HN : Hid (l.take (k + 1) = l.take k ++ [l.getD k ByteArray.empty]) := by
    show l.take (k + 1) = _
    rw [<- List.take_append_getElem hj]
    simp [List.getD, hj]
   generalize l.getD k ByteArray.empty = x at *
   subst hao
   clear hcx hg hmem
   go_wp2_with fail
   refine (cloneB_any x wr (by omega)).mono ?_
   rintro e w3 ⟨rfl, hb3⟩
   obtain ⟨W4, hW4⟩ : ∃ V, V = w3.alloc (Obj.cells #[.string x] 9) := ⟨_, rfl⟩
   have hb34 : Below wr.heap.size wr W4 := by
    rw [hW4]
    exact hb3.alloc hb3.size _
   have H4 : Hid (OwnT W4 w.heap.size (.slice la k lc) (l.take k) /\ OwnT W4 w3.heap.size (.slice (some ⟨w3.heap.size, 0, none⟩) 1 1) [x] /\ Below w.heap.size w W4) := ⟨HK.out.1.stays hb34, by rw [hW4]; exact World.ownsRow_lit w3 #[.string x] 1 (Nat.le_refl _) (by decide) rfl, HK.out.2.trans (hb34.mono HK.out.2.size)⟩
   clear hb3 hb34 HK c1
   go_wp2_with (at_builtin; rw [<- hW4]; refine wpList_append_texts2 rfl _ _ 38 rfl w.heap.size i0 Tryz.underlying38 hi hz0 hz1 hz2 (.slice la k lc) (l.take k).length (cellsT (l.take k)) rfl H4.out.1 _ [x] w3.heap.size H4.out.2.1 rfl (by have := HLEN.out; simp only [List.length_singleton]; omega) H4.out.2.2.size ?_)
   intro v9 w9 ho9 hg9
   rw [<- hW4] at hg9
   have H9 : Hid (OwnT w9 w.heap.size v9 (l.take (k + 1)) /\ Below w.heap.size w w9) := by
    have hrl := fun b hb => (World.ownsRow.lt H4.out.1 b hb).1
    refine ⟨?_, H4.out.2.2.grown hg9 H4.out.2.2.size hrl⟩
    rw [HN.out]
    simpa [OwnT, cellsT_append] using ho9
   clear ho9 hg9 H4 hW4
   go_wp2_with fail
   exact ⟨⟨k + 1, by omega, by go_num, H9⟩, by simp [intOf]; omega⟩
  ·have hki : ¬ (k : Int) < (n : Int) := by omega
   have HE : Hid (OwnT wr w.heap.size (.slice la k lc) l /\ Below w.heap.size w wr) := by
    have h := HK.out.1
    rw [List.take_of_length_le (by have := HC.out.2.1; omega)] at h
    exact ⟨h, HK.out.2⟩
   go_wp2_with fail
   go_ret
   exact ⟨_, rfl, HE.out.1, HE.out.2⟩
theorem ownCert_any (c : Ct) (v : Value) (bs : Nat) (w : World) (hl : wtC c <= 1048576) (ha : OwnC w bs v c) :
  Calls Tryz.prog 115 #[v] w fun e w' => ∃ u, e = .returned u /\ OwnC w' w.heap.size u c /\ Below w.heap.size w w' := by
 obtain ⟨z1, z2, z3, z4, z5, z6, z7, z8, z9⟩ := wt_parts hl
 obtain ⟨i0, hi, hz0, hz1, hz2⟩ := info_parts info3
 obtain ⟨p, e, d, rfl, h1, h2, h3, h4⟩ := ha
 obtain ⟨pa, pc, hp⟩ : ∃ ao cap, p = .slice ao c.pol.length cap := by obtain ⟨ao, cap, h, _⟩ := h1.at; exact ⟨ao, cap, h⟩
 obtain ⟨ea, ec, he⟩ : ∃ ao cap, e = .slice ao c.per.length cap := by obtain ⟨ao, cap, h, _⟩ := h2.at; exact ⟨ao, cap, h⟩
 obtain ⟨da, dc, hd⟩ : ∃ ao cap, d = .slice ao c.den.length cap := by obtain ⟨ao, cap, h, _⟩ := h3.at; exact ⟨ao, cap, h⟩
 obtain ⟨lp, hlp⟩ := zE (c.pol.length)
 obtain ⟨le, hle⟩ := zE (c.per.length)
 obtain ⟨ld, hld⟩ := zE (c.den.length)
 rw [hlp] at hp
 rw [hle] at he
 rw [hld] at hd
 subst hp he hd
 have HL : Hid ((OwnI w bs (.slice pa lp pc) c.pol /\ TxtAt w (.slice ea le ec) c.per /\ TxtAt w (.slice da ld dc) c.den) /\ (c.pol.length = lp /\ c.per.length = le /\ c.den.length = ld) /\ (c.pol.length <= 1048576 /\ c.per.length <= 1048576 /\ c.den.length <= 1048576) /\ (∀ s ∈ c.per, s.size <= 1000000000) /\ (∀ s ∈ c.den, s.size <= 1000000000) /\ (c.issuer.size <= 1048576 /\ c.subject.size <= 1048576 /\ c.key.size <= 1048576 /\ c.sig.size <= 1048576)) := ⟨⟨h1, h2.at, h3.at⟩, ⟨hlp, hle, hld⟩, ⟨z4, z5, z6⟩, fun s hs => Nat.le_trans (z8 s hs) (by decide), fun s hs => Nat.le_trans (z9 s hs) (by decide), z1, z2, z3, z7⟩
 clear h1 h2 h3 h4 hl z1 z2 z3 z4 z5 z6 z7 z8 z9 hlp hle hld
 unfold ctV
 go_enter Tryz.func115, Tryz.ntmps115
 go_wp2_with fail
 obtain ⟨W0, hW0⟩ : ∃ W, W = (w.alloc (Obj.cells #[.int .i64 c.serial, .string c.issuer, .string c.subject, .int .i64 c.frm, .int .i64 c.upto, .string c.key, .bool c.ca, .int .i64 c.pathLen, .int .i64 c.usage, .slice pa lp pc, .slice ea le ec, .slice da ld dc, .string c.sig] 44)).alloc (Obj.cells #[.int .i64 0, .string ⟨#[]⟩, .string ⟨#[]⟩, .int .i64 0, .int .i64 0, .string ⟨#[]⟩, .bool false, .int .i64 0, .int .i64 0, .slice none 0 0, .slice none 0 0, .slice none 0 0, .string ⟨#[]⟩] 44) := ⟨_, rfl⟩
 rw [<- hW0]
 have G0 : Hid (Blk W0 w.heap.size 44 #[.int .i64 c.serial, .string c.issuer, .string c.subject, .int .i64 c.frm, .int .i64 c.upto, .string c.key, .bool c.ca, .int .i64 c.pathLen, .int .i64 c.usage, .slice pa lp pc, .slice ea le ec, .slice da ld dc, .string c.sig] /\ Blk W0 (w.heap.size + 1) 44 #[.int .i64 0, .string ⟨#[]⟩, .string ⟨#[]⟩, .int .i64 0, .int .i64 0, .string ⟨#[]⟩, .bool false, .int .i64 0, .int .i64 0, .slice none 0 0, .slice none 0 0, .slice none 0 0, .string ⟨#[]⟩] /\ Below w.heap.size w W0 /\ w.heap.size + 2 <= W0.heap.size /\ (True)) := by
  have e0 : (w.alloc (Obj.cells #[.int .i64 c.serial, .string c.issuer, .string c.subject, .int .i64 c.frm, .int .i64 c.upto, .string c.key, .bool c.ca, .int .i64 c.pathLen, .int .i64 c.usage, .slice pa lp pc, .slice ea le ec, .slice da ld dc, .string c.sig] 44)).heap.size = w.heap.size + 1 := Array.size_push _
  have h := Blk.new (w.alloc (Obj.cells #[.int .i64 c.serial, .string c.issuer, .string c.subject, .int .i64 c.frm, .int .i64 c.upto, .string c.key, .bool c.ca, .int .i64 c.pathLen, .int .i64 c.usage, .slice pa lp pc, .slice ea le ec, .slice da ld dc, .string c.sig] 44)) 44 #[.int .i64 0, .string ⟨#[]⟩, .string ⟨#[]⟩, .int .i64 0, .int .i64 0, .string ⟨#[]⟩, .bool false, .int .i64 0, .int .i64 0, .slice none 0 0, .slice none 0 0, .slice none 0 0, .string ⟨#[]⟩]
  rw [e0] at h
  rw [hW0]
  exact ⟨(Blk.new w _ _).alloc _, h, ((Below.refl _ _).alloc (Nat.le_refl _) _).alloc (by rw [e0]; omega) _, by rw [size_alloc, e0]; omega, trivial⟩
 clear hW0
 have wd1 : w.heap.size ≠ w.heap.size + 1 := by omega
 refine (cloneB_any c.issuer W0 (by have := HL.out.2.2.2.2.2.1; omega)).mono ?_
 rintro r u1 ⟨rfl, hb⟩
 have F1 : Hid (Blk u1 w.heap.size 44 #[.int .i64 c.serial, .string c.issuer, .string c.subject, .int .i64 c.frm, .int .i64 c.upto, .string c.key, .bool c.ca, .int .i64 c.pathLen, .int .i64 c.usage, .slice pa lp pc, .slice ea le ec, .slice da ld dc, .string c.sig] /\ Blk u1 (w.heap.size + 1) 44 #[.int .i64 0, .string ⟨#[]⟩, .string ⟨#[]⟩, .int .i64 0, .int .i64 0, .string ⟨#[]⟩, .bool false, .int .i64 0, .int .i64 0, .slice none 0 0, .slice none 0 0, .slice none 0 0, .string ⟨#[]⟩] /\ Below w.heap.size w u1 /\ w.heap.size + 2 <= u1.heap.size /\ (True)) := ⟨G0.out.1.below hb G0.out.1.lt, G0.out.2.1.below hb G0.out.2.1.lt, G0.out.2.2.1.trans (hb.mono G0.out.2.2.1.size), Nat.le_trans G0.out.2.2.2.1 hb.size, trivial⟩
 clear hb G0
 have dj : u1.cell? ⟨w.heap.size, 1, none⟩ = some (.string c.issuer) := F1.out.1.cell 1
 have fj := fun j => F1.out.1.free j
 have nj : u1.cell? ⟨w.heap.size, 2, none⟩ = some (.string c.subject) := F1.out.1.cell 2
 go_wp2_with fail
 obtain ⟨V2, hV⟩ : ∃ V, V = u1.setCell ⟨w.heap.size, 1, none⟩ (.string c.issuer) := ⟨_, rfl⟩
 rw [<- hV]
 have G2 : Hid (Blk V2 w.heap.size 44 #[.int .i64 c.serial, .string c.issuer, .string c.subject, .int .i64 c.frm, .int .i64 c.upto, .string c.key, .bool c.ca, .int .i64 c.pathLen, .int .i64 c.usage, .slice pa lp pc, .slice ea le ec, .slice da ld dc, .string c.sig] /\ Blk V2 (w.heap.size + 1) 44 #[.int .i64 0, .string ⟨#[]⟩, .string ⟨#[]⟩, .int .i64 0, .int .i64 0, .string ⟨#[]⟩, .bool false, .int .i64 0, .int .i64 0, .slice none 0 0, .slice none 0 0, .slice none 0 0, .string ⟨#[]⟩] /\ Below w.heap.size w V2 /\ w.heap.size + 2 <= V2.heap.size /\ (True)) := by
  have hbs : Below w.heap.size u1 V2 := by rw [hV]; exact (Below.refl _ _).setCell (p := ⟨w.heap.size, 1, none⟩) (Nat.le_refl _) _
  have hot : ∀ b, w.heap.size + 1 <= b -> V2.heap[b]? = u1.heap[b]? := fun b hb => by rw [hV]; exact heap_setCell_other _ _ _ _ (by show b ≠ w.heap.size; omega)
  exact ⟨by rw [hV]; exact F1.out.1.set 1 _, (hot _ (Nat.le_refl _)).trans F1.out.2.1, F1.out.2.2.1.trans hbs, Nat.le_trans F1.out.2.2.2.1 hbs.size, trivial⟩
 clear hV F1 dj fj nj
 refine (cloneB_any c.subject V2 (by have := HL.out.2.2.2.2.2.2.1; omega)).mono ?_
 rintro r u3 ⟨rfl, hb⟩
 have F3 : Hid (Blk u3 w.heap.size 44 #[.int .i64 c.serial, .string c.issuer, .string c.subject, .int .i64 c.frm, .int .i64 c.upto, .string c.key, .bool c.ca, .int .i64 c.pathLen, .int .i64 c.usage, .slice pa lp pc, .slice ea le ec, .slice da ld dc, .string c.sig] /\ Blk u3 (w.heap.size + 1) 44 #[.int .i64 0, .string ⟨#[]⟩, .string ⟨#[]⟩, .int .i64 0, .int .i64 0, .string ⟨#[]⟩, .bool false, .int .i64 0, .int .i64 0, .slice none 0 0, .slice none 0 0, .slice none 0 0, .string ⟨#[]⟩] /\ Below w.heap.size w u3 /\ w.heap.size + 2 <= u3.heap.size /\ (True)) := ⟨G2.out.1.below hb G2.out.1.lt, G2.out.2.1.below hb G2.out.2.1.lt, G2.out.2.2.1.trans (hb.mono G2.out.2.2.1.size), Nat.le_trans G2.out.2.2.2.1 hb.size, trivial⟩
 clear hb G2
 have dj : u3.cell? ⟨w.heap.size, 2, none⟩ = some (.string c.subject) := F3.out.1.cell 2
 have fj := fun j => F3.out.1.free j
 have nj : u3.cell? ⟨w.heap.size, 5, none⟩ = some (.string c.key) := F3.out.1.cell 5
 go_wp2_with fail
 obtain ⟨V4, hV⟩ : ∃ V, V = u3.setCell ⟨w.heap.size, 2, none⟩ (.string c.subject) := ⟨_, rfl⟩
 rw [<- hV]
 have G4 : Hid (Blk V4 w.heap.size 44 #[.int .i64 c.serial, .string c.issuer, .string c.subject, .int .i64 c.frm, .int .i64 c.upto, .string c.key, .bool c.ca, .int .i64 c.pathLen, .int .i64 c.usage, .slice pa lp pc, .slice ea le ec, .slice da ld dc, .string c.sig] /\ Blk V4 (w.heap.size + 1) 44 #[.int .i64 0, .string ⟨#[]⟩, .string ⟨#[]⟩, .int .i64 0, .int .i64 0, .string ⟨#[]⟩, .bool false, .int .i64 0, .int .i64 0, .slice none 0 0, .slice none 0 0, .slice none 0 0, .string ⟨#[]⟩] /\ Below w.heap.size w V4 /\ w.heap.size + 2 <= V4.heap.size /\ (True)) := by
  have hbs : Below w.heap.size u3 V4 := by rw [hV]; exact (Below.refl _ _).setCell (p := ⟨w.heap.size, 2, none⟩) (Nat.le_refl _) _
  have hot : ∀ b, w.heap.size + 1 <= b -> V4.heap[b]? = u3.heap[b]? := fun b hb => by rw [hV]; exact heap_setCell_other _ _ _ _ (by show b ≠ w.heap.size; omega)
  exact ⟨by rw [hV]; exact F3.out.1.set 2 _, (hot _ (Nat.le_refl _)).trans F3.out.2.1, F3.out.2.2.1.trans hbs, Nat.le_trans F3.out.2.2.2.1 hbs.size, trivial⟩
 clear hV F3 dj fj nj
 refine (cloneB_any c.key V4 (by have := HL.out.2.2.2.2.2.2.2.1; omega)).mono ?_
 rintro r u5 ⟨rfl, hb⟩
 have F5 : Hid (Blk u5 w.heap.size 44 #[.int .i64 c.serial, .string c.issuer, .string c.subject, .int .i64 c.frm, .int .i64 c.upto, .string c.key, .bool c.ca, .int .i64 c.pathLen, .int .i64 c.usage, .slice pa lp pc, .slice ea le ec, .slice da ld dc, .string c.sig] /\ Blk u5 (w.heap.size + 1) 44 #[.int .i64 0, .string ⟨#[]⟩, .string ⟨#[]⟩, .int .i64 0, .int .i64 0, .string ⟨#[]⟩, .bool false, .int .i64 0, .int .i64 0, .slice none 0 0, .slice none 0 0, .slice none 0 0, .string ⟨#[]⟩] /\ Below w.heap.size w u5 /\ w.heap.size + 2 <= u5.heap.size /\ (True)) := ⟨G4.out.1.below hb G4.out.1.lt, G4.out.2.1.below hb G4.out.2.1.lt, G4.out.2.2.1.trans (hb.mono G4.out.2.2.1.size), Nat.le_trans G4.out.2.2.2.1 hb.size, trivial⟩
 clear hb G4
 have dj : u5.cell? ⟨w.heap.size, 5, none⟩ = some (.string c.key) := F5.out.1.cell 5
 have fj := fun j => F5.out.1.free j
 have nj : u5.cell? ⟨w.heap.size, 9, none⟩ = some (.slice pa lp pc) := F5.out.1.cell 9
 obtain ⟨V6, hV⟩ : ∃ V, V = u5.setCell ⟨w.heap.size, 5, none⟩ (.string c.key) := ⟨_, rfl⟩
 have GA : Hid (Blk V6 w.heap.size 44 #[.int .i64 c.serial, .string c.issuer, .string c.subject, .int .i64 c.frm, .int .i64 c.upto, .string c.key, .bool c.ca, .int .i64 c.pathLen, .int .i64 c.usage, .slice pa lp pc, .slice ea le ec, .slice da ld dc, .string c.sig] /\ Blk V6 (w.heap.size + 1) 44 #[.int .i64 0, .string ⟨#[]⟩, .string ⟨#[]⟩, .int .i64 0, .int .i64 0, .string ⟨#[]⟩, .bool false, .int .i64 0, .int .i64 0, .slice none 0 0, .slice none 0 0, .slice none 0 0, .string ⟨#[]⟩] /\ Below w.heap.size w V6 /\ w.heap.size + 2 <= V6.heap.size /\ (True)) := by
  have hbs : Below w.heap.size u5 V6 := by rw [hV]; exact (Below.refl _ _).setCell (p := ⟨w.heap.size, 5, none⟩) (Nat.le_refl _) _
  have hot : ∀ b, w.heap.size + 1 <= b -> V6.heap[b]? = u5.heap[b]? := fun b hb => by rw [hV]; exact heap_setCell_other _ _ _ _ (by show b ≠ w.heap.size; omega)
  exact ⟨by rw [hV]; exact F5.out.1.set 5 _, (hot _ (Nat.le_refl _)).trans F5.out.2.1, F5.out.2.2.1.trans hbs, Nat.le_trans F5.out.2.2.2.1 hbs.size, trivial⟩
 have HSRC : Hid (OwnI V6 bs (.slice pa lp pc) c.pol) := HL.out.1.1.stays GA.out.2.2.1
 go_wp2_with (at_builtin; rw [<- hV]; refine wpList_append_ints2 rfl _ _ 37 rfl (w.heap.size + 2) i0 Tryz.underlying37 hi hz0 hz1 hz2 (.slice none 0 0) 0 [] rfl (World.ownsRow_nil _ _ _ _) _ c.pol bs HSRC.out rfl (by have := HL.out.2.2.1.1; omega) GA.out.2.2.2.1 ?_)
 intro v9 w9 ho9 hg9
 try rw [<- hV] at hg9
 clear dj fj nj hV F5 HSRC
 have HV9 : Hid ((Blk w9 w.heap.size 44 #[.int .i64 c.serial, .string c.issuer, .string c.subject, .int .i64 c.frm, .int .i64 c.upto, .string c.key, .bool c.ca, .int .i64 c.pathLen, .int .i64 c.usage, .slice pa lp pc, .slice ea le ec, .slice da ld dc, .string c.sig] /\ Blk w9 (w.heap.size + 1) 44 #[.int .i64 0, .string ⟨#[]⟩, .string ⟨#[]⟩, .int .i64 0, .int .i64 0, .string ⟨#[]⟩, .bool false, .int .i64 0, .int .i64 0, .slice none 0 0, .slice none 0 0, .slice none 0 0, .string ⟨#[]⟩] /\ Below w.heap.size w w9 /\ w.heap.size + 2 <= w9.heap.size /\ (True)) /\ OwnI w9 (w.heap.size + 2) v9 c.pol) := by
  refine ⟨⟨(hg9.block _ GA.out.1.lt (fun e => by cases e)).trans GA.out.1, (hg9.block _ GA.out.2.1.lt (fun e => by cases e)).trans GA.out.2.1, GA.out.2.2.1.grown hg9 GA.out.2.2.1.size (fun b hb => by cases hb), Nat.le_trans GA.out.2.2.2.1 hg9.size, trivial⟩, ?_⟩
  simpa [OwnI] using ho9
 clear ho9 hg9 GA
 obtain ⟨qp, mp, hq9⟩ : ∃ ao cap, v9 = .slice ao c.pol.length cap := by obtain ⟨ao, cap, h, _⟩ := HV9.out.2.at; exact ⟨ao, cap, h⟩
 rw [HL.out.2.1.1] at hq9
 subst hq9
 have F9 : Hid (Blk w9 w.heap.size 44 #[.int .i64 c.serial, .string c.issuer, .string c.subject, .int .i64 c.frm, .int .i64 c.upto, .string c.key, .bool c.ca, .int .i64 c.pathLen, .int .i64 c.usage, .slice pa lp pc, .slice ea le ec, .slice da ld dc, .string c.sig] /\ Blk w9 (w.heap.size + 1) 44 #[.int .i64 0, .string ⟨#[]⟩, .string ⟨#[]⟩, .int .i64 0, .int .i64 0, .string ⟨#[]⟩, .bool false, .int .i64 0, .int .i64 0, .slice none 0 0, .slice none 0 0, .slice none 0 0, .string ⟨#[]⟩] /\ Below w.heap.size w w9 /\ w.heap.size + 2 <= w9.heap.size /\ (OwnI w9 (w.heap.size + 2) (.slice qp lp mp) c.pol)) := ⟨HV9.out.1.1, HV9.out.1.2.1, HV9.out.1.2.2.1, HV9.out.1.2.2.2.1, HV9.out.2⟩
 clear HV9
 have dj : w9.cell? ⟨w.heap.size, 9, none⟩ = some (.slice pa lp pc) := F9.out.1.cell 9
 have fj := fun j => F9.out.1.free j
 have nj : w9.cell? ⟨w.heap.size, 10, none⟩ = some (.slice ea le ec) := F9.out.1.cell 10
 go_wp2_with fail
 obtain ⟨V7, hV⟩ : ∃ V, V = w9.setCell ⟨w.heap.size, 9, none⟩ (.slice qp lp mp) := ⟨_, rfl⟩
 rw [<- hV]
 have G7 : Hid (Blk V7 w.heap.size 44 #[.int .i64 c.serial, .string c.issuer, .string c.subject, .int .i64 c.frm, .int .i64 c.upto, .string c.key, .bool c.ca, .int .i64 c.pathLen, .int .i64 c.usage, .slice qp lp mp, .slice ea le ec, .slice da ld dc, .string c.sig] /\ Blk V7 (w.heap.size + 1) 44 #[.int .i64 0, .string ⟨#[]⟩, .string ⟨#[]⟩, .int .i64 0, .int .i64 0, .string ⟨#[]⟩, .bool false, .int .i64 0, .int .i64 0, .slice none 0 0, .slice none 0 0, .slice none 0 0, .string ⟨#[]⟩] /\ Below w.heap.size w V7 /\ w.heap.size + 2 <= V7.heap.size /\ (OwnI V7 (w.heap.size + 2) (.slice qp lp mp) c.pol)) := by
  have hbs : Below w.heap.size w9 V7 := by rw [hV]; exact (Below.refl _ _).setCell (p := ⟨w.heap.size, 9, none⟩) (Nat.le_refl _) _
  have hot : ∀ b, w.heap.size + 1 <= b -> V7.heap[b]? = w9.heap[b]? := fun b hb => by rw [hV]; exact heap_setCell_other _ _ _ _ (by show b ≠ w.heap.size; omega)
  exact ⟨by rw [hV]; exact F9.out.1.set 9 _, (hot _ (Nat.le_refl _)).trans F9.out.2.1, F9.out.2.2.1.trans hbs, Nat.le_trans F9.out.2.2.2.1 hbs.size, F9.out.2.2.2.2.block (fun b hb => hot b (by omega))⟩
 clear hV F9 dj fj nj
 refine (ownTexts_any (.slice ea le ec) c.per V7 (by have := HL.out.2.2.1; omega) HL.out.2.2.2.1 (HL.out.1.2.1.below G7.out.2.2.1)).mono ?_
 rintro r u8 ⟨ve, rfl, ho, hb⟩
 obtain ⟨qe, me, hqe⟩ : ∃ ao cap, ve = .slice ao c.per.length cap := by obtain ⟨ao, cap, h, _⟩ := ho.at; exact ⟨ao, cap, h⟩
 rw [HL.out.2.1.2.1] at hqe
 subst hqe
 have F8 : Hid (Blk u8 w.heap.size 44 #[.int .i64 c.serial, .string c.issuer, .string c.subject, .int .i64 c.frm, .int .i64 c.upto, .string c.key, .bool c.ca, .int .i64 c.pathLen, .int .i64 c.usage, .slice qp lp mp, .slice ea le ec, .slice da ld dc, .string c.sig] /\ Blk u8 (w.heap.size + 1) 44 #[.int .i64 0, .string ⟨#[]⟩, .string ⟨#[]⟩, .int .i64 0, .int .i64 0, .string ⟨#[]⟩, .bool false, .int .i64 0, .int .i64 0, .slice none 0 0, .slice none 0 0, .slice none 0 0, .string ⟨#[]⟩] /\ Below w.heap.size w u8 /\ w.heap.size + 2 <= u8.heap.size /\ (OwnI u8 (w.heap.size + 2) (.slice qp lp mp) c.pol /\ OwnT u8 (w.heap.size + 2) (.slice qe le me) c.per /\ (Ap (.slice qp lp mp) (.slice qe le me) /\ Ap (.slice qe le me) (.slice qp lp mp)))) := ⟨G7.out.1.below hb G7.out.1.lt, G7.out.2.1.below hb G7.out.2.1.lt, G7.out.2.2.1.trans (hb.mono G7.out.2.2.1.size), Nat.le_trans G7.out.2.2.2.1 hb.size, ⟨G7.out.2.2.2.2.stays hb, ho.base G7.out.2.2.2.1, rows_apart G7.out.2.2.2.2 ho (Nat.le_refl _)⟩⟩
 clear hb ho G7
 have dj : u8.cell? ⟨w.heap.size, 10, none⟩ = some (.slice ea le ec) := F8.out.1.cell 10
 have fj := fun j => F8.out.1.free j
 have nj : u8.cell? ⟨w.heap.size, 11, none⟩ = some (.slice da ld dc) := F8.out.1.cell 11
 go_wp2_with fail
 obtain ⟨V9, hV⟩ : ∃ V, V = u8.setCell ⟨w.heap.size, 10, none⟩ (.slice qe le me) := ⟨_, rfl⟩
 rw [<- hV]
 have G9 : Hid (Blk V9 w.heap.size 44 #[.int .i64 c.serial, .string c.issuer, .string c.subject, .int .i64 c.frm, .int .i64 c.upto, .string c.key, .bool c.ca, .int .i64 c.pathLen, .int .i64 c.usage, .slice qp lp mp, .slice qe le me, .slice da ld dc, .string c.sig] /\ Blk V9 (w.heap.size + 1) 44 #[.int .i64 0, .string ⟨#[]⟩, .string ⟨#[]⟩, .int .i64 0, .int .i64 0, .string ⟨#[]⟩, .bool false, .int .i64 0, .int .i64 0, .slice none 0 0, .slice none 0 0, .slice none 0 0, .string ⟨#[]⟩] /\ Below w.heap.size w V9 /\ w.heap.size + 2 <= V9.heap.size /\ (OwnI V9 (w.heap.size + 2) (.slice qp lp mp) c.pol /\ OwnT V9 (w.heap.size + 2) (.slice qe le me) c.per /\ (Ap (.slice qp lp mp) (.slice qe le me) /\ Ap (.slice qe le me) (.slice qp lp mp)))) := by
  have hbs : Below w.heap.size u8 V9 := by rw [hV]; exact (Below.refl _ _).setCell (p := ⟨w.heap.size, 10, none⟩) (Nat.le_refl _) _
  have hot : ∀ b, w.heap.size + 1 <= b -> V9.heap[b]? = u8.heap[b]? := fun b hb => by rw [hV]; exact heap_setCell_other _ _ _ _ (by show b ≠ w.heap.size; omega)
  exact ⟨by rw [hV]; exact F8.out.1.set 10 _, (hot _ (Nat.le_refl _)).trans F8.out.2.1, F8.out.2.2.1.trans hbs, Nat.le_trans F8.out.2.2.2.1 hbs.size, ⟨F8.out.2.2.2.2.1.block (fun b hb => hot b (by omega)), F8.out.2.2.2.2.2.1.block (fun b hb => hot b (by omega)), F8.out.2.2.2.2.2.2⟩⟩
 clear hV F8 dj fj nj
 refine (ownTexts_any (.slice da ld dc) c.den V9 (by have := HL.out.2.2.1; omega) HL.out.2.2.2.2.1 (HL.out.1.2.2.below G9.out.2.2.1)).mono ?_
 rintro r u10 ⟨vd, rfl, ho, hb⟩
 obtain ⟨qd, md, hqd⟩ : ∃ ao cap, vd = .slice ao c.den.length cap := by obtain ⟨ao, cap, h, _⟩ := ho.at; exact ⟨ao, cap, h⟩
 rw [HL.out.2.1.2.2] at hqd
 subst hqd
 have F10 : Hid (Blk u10 w.heap.size 44 #[.int .i64 c.serial, .string c.issuer, .string c.subject, .int .i64 c.frm, .int .i64 c.upto, .string c.key, .bool c.ca, .int .i64 c.pathLen, .int .i64 c.usage, .slice qp lp mp, .slice qe le me, .slice da ld dc, .string c.sig] /\ Blk u10 (w.heap.size + 1) 44 #[.int .i64 0, .string ⟨#[]⟩, .string ⟨#[]⟩, .int .i64 0, .int .i64 0, .string ⟨#[]⟩, .bool false, .int .i64 0, .int .i64 0, .slice none 0 0, .slice none 0 0, .slice none 0 0, .string ⟨#[]⟩] /\ Below w.heap.size w u10 /\ w.heap.size + 2 <= u10.heap.size /\ (OwnI u10 (w.heap.size + 2) (.slice qp lp mp) c.pol /\ OwnT u10 (w.heap.size + 2) (.slice qe le me) c.per /\ OwnT u10 (w.heap.size + 2) (.slice qd ld md) c.den /\ (Ap (.slice qp lp mp) (.slice qe le me) /\ Ap (.slice qe le me) (.slice qp lp mp)) /\ (Ap (.slice qp lp mp) (.slice qd ld md) /\ Ap (.slice qd ld md) (.slice qp lp mp)) /\ (Ap (.slice qe le me) (.slice qd ld md) /\ Ap (.slice qd ld md) (.slice qe le me)))) := ⟨G9.out.1.below hb G9.out.1.lt, G9.out.2.1.below hb G9.out.2.1.lt, G9.out.2.2.1.trans (hb.mono G9.out.2.2.1.size), Nat.le_trans G9.out.2.2.2.1 hb.size, ⟨G9.out.2.2.2.2.1.stays hb, G9.out.2.2.2.2.2.1.stays hb, ho.base G9.out.2.2.2.1, G9.out.2.2.2.2.2.2, rows_apart G9.out.2.2.2.2.1 ho (Nat.le_refl _), rows_apart G9.out.2.2.2.2.2.1 ho (Nat.le_refl _)⟩⟩
 clear hb ho G9
 have dj : u10.cell? ⟨w.heap.size, 11, none⟩ = some (.slice da ld dc) := F10.out.1.cell 11
 have fj := fun j => F10.out.1.free j
 have nj : u10.cell? ⟨w.heap.size, 12, none⟩ = some (.string c.sig) := F10.out.1.cell 12
 go_wp2_with fail
 obtain ⟨V11, hV⟩ : ∃ V, V = u10.setCell ⟨w.heap.size, 11, none⟩ (.slice qd ld md) := ⟨_, rfl⟩
 rw [<- hV]
 have G11 : Hid (Blk V11 w.heap.size 44 #[.int .i64 c.serial, .string c.issuer, .string c.subject, .int .i64 c.frm, .int .i64 c.upto, .string c.key, .bool c.ca, .int .i64 c.pathLen, .int .i64 c.usage, .slice qp lp mp, .slice qe le me, .slice qd ld md, .string c.sig] /\ Blk V11 (w.heap.size + 1) 44 #[.int .i64 0, .string ⟨#[]⟩, .string ⟨#[]⟩, .int .i64 0, .int .i64 0, .string ⟨#[]⟩, .bool false, .int .i64 0, .int .i64 0, .slice none 0 0, .slice none 0 0, .slice none 0 0, .string ⟨#[]⟩] /\ Below w.heap.size w V11 /\ w.heap.size + 2 <= V11.heap.size /\ (OwnI V11 (w.heap.size + 2) (.slice qp lp mp) c.pol /\ OwnT V11 (w.heap.size + 2) (.slice qe le me) c.per /\ OwnT V11 (w.heap.size + 2) (.slice qd ld md) c.den /\ (Ap (.slice qp lp mp) (.slice qe le me) /\ Ap (.slice qe le me) (.slice qp lp mp)) /\ (Ap (.slice qp lp mp) (.slice qd ld md) /\ Ap (.slice qd ld md) (.slice qp lp mp)) /\ (Ap (.slice qe le me) (.slice qd ld md) /\ Ap (.slice qd ld md) (.slice qe le me)))) := by
  have hbs : Below w.heap.size u10 V11 := by rw [hV]; exact (Below.refl _ _).setCell (p := ⟨w.heap.size, 11, none⟩) (Nat.le_refl _) _
  have hot : ∀ b, w.heap.size + 1 <= b -> V11.heap[b]? = u10.heap[b]? := fun b hb => by rw [hV]; exact heap_setCell_other _ _ _ _ (by show b ≠ w.heap.size; omega)
  exact ⟨by rw [hV]; exact F10.out.1.set 11 _, (hot _ (Nat.le_refl _)).trans F10.out.2.1, F10.out.2.2.1.trans hbs, Nat.le_trans F10.out.2.2.2.1 hbs.size, ⟨F10.out.2.2.2.2.1.block (fun b hb => hot b (by omega)), F10.out.2.2.2.2.2.1.block (fun b hb => hot b (by omega)), F10.out.2.2.2.2.2.2.1.block (fun b hb => hot b (by omega)), F10.out.2.2.2.2.2.2.2⟩⟩
 clear hV F10 dj fj nj
 refine (cloneB_any c.sig V11 (by have := HL.out.2.2.2.2.2.2.2.2; omega)).mono ?_
 rintro r u12 ⟨rfl, hb⟩
 have F12 : Hid (Blk u12 w.heap.size 44 #[.int .i64 c.serial, .string c.issuer, .string c.subject, .int .i64 c.frm, .int .i64 c.upto, .string c.key, .bool c.ca, .int .i64 c.pathLen, .int .i64 c.usage, .slice qp lp mp, .slice qe le me, .slice qd ld md, .string c.sig] /\ Blk u12 (w.heap.size + 1) 44 #[.int .i64 0, .string ⟨#[]⟩, .string ⟨#[]⟩, .int .i64 0, .int .i64 0, .string ⟨#[]⟩, .bool false, .int .i64 0, .int .i64 0, .slice none 0 0, .slice none 0 0, .slice none 0 0, .string ⟨#[]⟩] /\ Below w.heap.size w u12 /\ w.heap.size + 2 <= u12.heap.size /\ (OwnI u12 (w.heap.size + 2) (.slice qp lp mp) c.pol /\ OwnT u12 (w.heap.size + 2) (.slice qe le me) c.per /\ OwnT u12 (w.heap.size + 2) (.slice qd ld md) c.den /\ (Ap (.slice qp lp mp) (.slice qe le me) /\ Ap (.slice qe le me) (.slice qp lp mp)) /\ (Ap (.slice qp lp mp) (.slice qd ld md) /\ Ap (.slice qd ld md) (.slice qp lp mp)) /\ (Ap (.slice qe le me) (.slice qd ld md) /\ Ap (.slice qd ld md) (.slice qe le me)))) := ⟨G11.out.1.below hb G11.out.1.lt, G11.out.2.1.below hb G11.out.2.1.lt, G11.out.2.2.1.trans (hb.mono G11.out.2.2.1.size), Nat.le_trans G11.out.2.2.2.1 hb.size, ⟨G11.out.2.2.2.2.1.stays hb, G11.out.2.2.2.2.2.1.stays hb, G11.out.2.2.2.2.2.2.1.stays hb, G11.out.2.2.2.2.2.2.2⟩⟩
 clear hb G11
 have a0 : u12.cell? ⟨w.heap.size, 0, none⟩ = some (.int .i64 c.serial) := F12.out.1.cell 0
 have b0 : u12.cell? ⟨w.heap.size + 1, 0, none⟩ = some (.int .i64 0) := F12.out.2.1.cell 0
 have a1 : u12.cell? ⟨w.heap.size, 1, none⟩ = some (.string c.issuer) := F12.out.1.cell 1
 have b1 : u12.cell? ⟨w.heap.size + 1, 1, none⟩ = some (.string ⟨#[]⟩) := F12.out.2.1.cell 1
 have a2 : u12.cell? ⟨w.heap.size, 2, none⟩ = some (.string c.subject) := F12.out.1.cell 2
 have b2 : u12.cell? ⟨w.heap.size + 1, 2, none⟩ = some (.string ⟨#[]⟩) := F12.out.2.1.cell 2
 have a3 : u12.cell? ⟨w.heap.size, 3, none⟩ = some (.int .i64 c.frm) := F12.out.1.cell 3
 have b3 : u12.cell? ⟨w.heap.size + 1, 3, none⟩ = some (.int .i64 0) := F12.out.2.1.cell 3
 have a4 : u12.cell? ⟨w.heap.size, 4, none⟩ = some (.int .i64 c.upto) := F12.out.1.cell 4
 have b4 : u12.cell? ⟨w.heap.size + 1, 4, none⟩ = some (.int .i64 0) := F12.out.2.1.cell 4
 have a5 : u12.cell? ⟨w.heap.size, 5, none⟩ = some (.string c.key) := F12.out.1.cell 5
 have b5 : u12.cell? ⟨w.heap.size + 1, 5, none⟩ = some (.string ⟨#[]⟩) := F12.out.2.1.cell 5
 have a6 : u12.cell? ⟨w.heap.size, 6, none⟩ = some (.bool c.ca) := F12.out.1.cell 6
 have b6 : u12.cell? ⟨w.heap.size + 1, 6, none⟩ = some (.bool false) := F12.out.2.1.cell 6
 have a7 : u12.cell? ⟨w.heap.size, 7, none⟩ = some (.int .i64 c.pathLen) := F12.out.1.cell 7
 have b7 : u12.cell? ⟨w.heap.size + 1, 7, none⟩ = some (.int .i64 0) := F12.out.2.1.cell 7
 have a8 : u12.cell? ⟨w.heap.size, 8, none⟩ = some (.int .i64 c.usage) := F12.out.1.cell 8
 have b8 : u12.cell? ⟨w.heap.size + 1, 8, none⟩ = some (.int .i64 0) := F12.out.2.1.cell 8
 have a9 : u12.cell? ⟨w.heap.size, 9, none⟩ = some (.slice qp lp mp) := F12.out.1.cell 9
 have b9 : u12.cell? ⟨w.heap.size + 1, 9, none⟩ = some (.slice none 0 0) := F12.out.2.1.cell 9
 have a10 : u12.cell? ⟨w.heap.size, 10, none⟩ = some (.slice qe le me) := F12.out.1.cell 10
 have b10 : u12.cell? ⟨w.heap.size + 1, 10, none⟩ = some (.slice none 0 0) := F12.out.2.1.cell 10
 have a11 : u12.cell? ⟨w.heap.size, 11, none⟩ = some (.slice qd ld md) := F12.out.1.cell 11
 have b11 : u12.cell? ⟨w.heap.size + 1, 11, none⟩ = some (.slice none 0 0) := F12.out.2.1.cell 11
 have a12 : u12.cell? ⟨w.heap.size, 12, none⟩ = some (.string c.sig) := F12.out.1.cell 12
 have b12 : u12.cell? ⟨w.heap.size + 1, 12, none⟩ = some (.string ⟨#[]⟩) := F12.out.2.1.cell 12
 have fa := fun j => F12.out.1.free j
 have fb := fun j => F12.out.2.1.free j
 go_wp2_with fail
 refine bodyPost_ret (v := ctV c (.slice qp lp mp) (.slice qe le me) (.slice qd ld md)) (by simp [results, Tryz.results115, go_sem, ctV, b0, b1, b2, b3, b4, b5, b6, b7, b8, b9, b10, b11, b12]) rfl ⟨_, rfl, ⟨_, _, _, rfl, (F12.out.2.2.2.2.1.block ?far).base (by omega), (F12.out.2.2.2.2.2.1.block ?far).base (by omega), (F12.out.2.2.2.2.2.2.1.block ?far).base (by omega), F12.out.2.2.2.2.2.2.2.1, F12.out.2.2.2.2.2.2.2.2.1, F12.out.2.2.2.2.2.2.2.2.2⟩, ?bel⟩
 case far =>
  intro b hb
  iterate 14 rw [heap_setCell_other _ _ _ _ (by first | (show b ≠ w.heap.size; omega) | (show b ≠ w.heap.size + 1; omega))]
 case bel =>
  iterate 14 refine Below.setCell ?_ (by first | (show w.heap.size <= w.heap.size; omega) | (show w.heap.size <= w.heap.size + 1; omega)) _
  exact F12.out.2.2.1
end Go.Proofs.YtplblechcnbieaaGreat
