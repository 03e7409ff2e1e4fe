/-
  Texts of the proof.
-/
import Derived.Test.YtabfamhaihnccaaGreatShelf
import Derived.Laws.IdiomStrings
import Derived.Laws.AppendOwnNone
import Derived.Test.YtabfamhaihnccaaGreatLC16
set_option linter.unusedVariables false
set_option linter.unusedSimpArgs false
set_option maxRecDepth 100000
set_option maxHeartbeats 25600000
namespace Go.Proofs.YtabfamhaihnccaaGreat
open Go.RowKit Der
theorem plain_any (t : Int) (s : List UInt8) (kv : Value) (w : World) (hs : s.length <= 20000000) :
  Calls Tryz.prog 204 #[.agg #[zI t, zG ⟨s.toArray⟩, kv]] w fun e w' => e = .returned (.bool (plainOk t s)) /\ zW w w' := by
 have HL := one_laid w (zI t) (zG ⟨s.toArray⟩) kv 178;by_cases h1 : t = 1
 ·subst h1
  have HN : Hid (plainOk 1 s = (s == [0] || s == [255])) := rfl;by_cases e0 : s = [0]
  ·subst e0
   go_enter Tryz.func204, Tryz.ntmps204;go_wp2_with fail;go_ret;exact ⟨by rw [HN.out]; rfl, (HL _ rfl).1⟩
  ·by_cases e1 : s = [255]
   ·subst e1
    go_enter Tryz.func204, Tryz.ntmps204;go_wp2_with fail;go_ret;exact ⟨by rw [HN.out]; rfl, (HL _ rfl).1⟩
   ·have f0 : (s == [0]) = false := by simpa using e0
    have f1 : (s == [255]) = false := by simpa using e1
    have HR : Hid (plainOk 1 s = false) := by show plainOk 1 s = false; rw [HN.out, f0, f1]; rfl
    go_enter Tryz.func204, Tryz.ntmps204;go_wp2_with fail;go_ret;exact ⟨by rw [HR.out]; rfl, (HL _ rfl).1⟩
 by_cases h2 : t = 2
 ·subst h2
  have hsz : (⟨s.toArray⟩ : ByteArray).size = s.length := by show s.toArray.size = _; simp
  by_cases hl : 1 <= s.length /\ s.length <= 5
  ·obtain ⟨b, r, rfl⟩ : ∃ b r, s = b :: r := by
    cases s with
    | nil => simp at hl
    | cons b r => exact ⟨b, r, rfl⟩
   have hg0 : ∀ h, (⟨(b :: r).toArray⟩ : ByteArray)[0]'h = b := fun h => rfl
   by_cases hb : 128 <= b.toNat
   ·have HR : Hid (plainOk 2 (b :: r) = false) := by
     show plainOk 2 (b :: r) = false;unfold plainOk;rw [if_neg (by decide), if_pos rfl];have : ¬ b < 128 := by rw [UInt8.lt_iff_toNat_lt]; simpa using hb
     simp [this]
    have hbi : (128 : Int) <= (b.toNat : Int) := by omega
    go_enter Tryz.func204, Tryz.ntmps204;go_wp2_with fail;refine (in_yes _ 1 5 _ (by simp at hl |-; omega) (by simp at hl |-; omega)).mono ?_;rintro e w' ⟨rfl, rfl⟩;go_wp2_with fail;go_ret;exact ⟨by rw [HR.out]; rfl, (HL _ rfl).1⟩
   ·have hbi : ¬ (128 : Int) <= (b.toNat : Int) := by omega
    have hblt : b < 128 := by rw [UInt8.lt_iff_toNat_lt]; simpa using hb
    by_cases hb0 : b.toNat = 0
    ·have hb00 : b = 0 := UInt8.toNat_inj.1 (by simpa using hb0)
     subst hb00
     cases r with
     | nil =>
      have HR : Hid (plainOk 2 [0] = true) := by show plainOk 2 [0] = true; decide
      go_enter Tryz.func204, Tryz.ntmps204;go_wp2_with fail;refine (in_yes _ 1 5 _ (by simp) (by simp)).mono ?_;rintro e w' ⟨rfl, rfl⟩;go_wp2_with fail;go_ret;exact ⟨by rw [HR.out]; rfl, (HL _ rfl).1⟩
     | cons c r =>
      have hg1 : ∀ h, (⟨(0 :: c :: r).toArray⟩ : ByteArray)[1]'h = c := fun h => rfl
      have hrl : ¬ ((r.length : Int) + 1 + 1 = 1) := by omega
      have HR : Hid (plainOk 2 (0 :: c :: r) = decide ((128 : Int) <= (c.toNat : Int))) := by
       show plainOk 2 (0 :: c :: r) = _;unfold plainOk;rw [if_neg (by decide), if_pos rfl];have h5 : r.length + 1 + 1 <= 5 := by simpa using hl.2
       have e : ((128 : UInt8) <= c) = ((128 : Int) <= (c.toNat : Int)) := by
        rw [UInt8.le_iff_toNat_le];show (128 <= c.toNat) = _;exact propext ⟨fun h => by omega, fun h => by omega⟩
       simp [h5, e]
      go_enter Tryz.func204, Tryz.ntmps204;go_wp2_with fail;refine (in_yes _ 1 5 _ (by simp at hl |-; omega) (by simp at hl |-; omega)).mono ?_;rintro e w' ⟨rfl, rfl⟩;go_wp2_with fail;go_ret;exact ⟨by rw [HR.out]; rfl, (HL _ rfl).1⟩
    ·have hbz : ¬ (b.toNat : Int) = 0 := by omega
     have HR : Hid (plainOk 2 (b :: r) = true) := by
      show plainOk 2 (b :: r) = true;unfold plainOk;rw [if_neg (by decide), if_pos rfl];have h5 : r.length + 1 <= 5 := by simpa using hl.2
      have hne : b ≠ 0 := fun e => hb0 (by rw [e]; rfl)
      simp [hblt, h5, hne]
     go_enter Tryz.func204, Tryz.ntmps204;go_wp2_with fail;refine (in_yes _ 1 5 _ (by simp at hl |-; omega) (by simp at hl |-; omega)).mono ?_;rintro e w' ⟨rfl, rfl⟩;go_wp2_with fail;go_ret;exact ⟨by rw [HR.out]; rfl, (HL _ rfl).1⟩
  ·have HR : Hid (plainOk 2 s = false) := by
    show plainOk 2 s = false;unfold plainOk;rw [if_neg (by decide), if_pos rfl];by_cases h1 : 1 <= s.length
    ·have h5 : ¬ s.length <= 5 := fun h => hl ⟨h1, h⟩
     simp [h5]
    ·simp [h1]
   go_enter Tryz.func204, Tryz.ntmps204;go_wp2_with fail;refine (in_no _ 1 5 _ (by omega)).mono ?_;rintro e w' ⟨rfl, rfl⟩;go_wp2_with fail;go_ret;exact ⟨by rw [HR.out]; rfl, (HL _ rfl).1⟩
 by_cases h12 : t = 12
 ·subst h12
  obtain ⟨W2, hW2⟩ : ∃ W, W = w.alloc (Obj.cells #[Value.int IntKind.i64 12, Value.string { data := s.toArray }, kv] 178) := ⟨_, rfl⟩;have HW := HL W2 hW2;have c1 := HW.2.2.2.1;have hb := HW.1;have hsz : (⟨s.toArray⟩ : ByteArray).size = s.length := by show s.toArray.size = _; simp
  go_enter Tryz.func204, Tryz.ntmps204;go_wp2_with fail;rw [<- hW2];clear HL hW2 HW
  go_loopw [3] (fun iv wr => ∃ k : Nat, k <= s.length /\ iv = zI (k : Int) /\ wr = W2 /\ Hid (∀ j (hj : j < s.length), j < k -> 32 <= s[j].toNat /\ s[j].toNat <= 126)) (fun iv _ => s.length - (intOf iv).toNat)
  case atStart => exact ⟨0, Nat.zero_le _, rfl, rfl, fun j _ h => absurd h (Nat.not_lt_zero _)⟩
  case round =>
   obtain ⟨k, hk, rfl, rfl, HP⟩ := hrel;by_cases hlt : k < s.length
   ·have hlti : (k : Int) < (s.length : Int) := by omega
    have hk0 : (0 : Int) <= (k : Int) := by omega
    obtain ⟨b, hbk⟩ := zE (s[k]);have hgk : ∀ h, (⟨s.toArray⟩ : ByteArray)[k]'h = b := fun h => by rw [<- hbk]; rfl
    by_cases hok : 32 <= b.toNat /\ b.toNat <= 126
    ·have HN : Hid (∀ j (hj : j < s.length), j < k + 1 -> 32 <= s[j].toNat /\ s[j].toNat <= 126) := fun j hj hjk => by
      by_cases e : j = k
      ·subst e; rw [hbk]; exact hok
      ·exact HP.out j hj (by omega)
     have h1 : ¬ (b.toNat : Int) < 32 := by omega
     have h2 : ¬ (126 : Int) < (b.toNat : Int) := by omega
     clear hbk HP hok;go_wp2_with fail
     go_roundw
     case rel => exact ⟨k + 1, by omega, by go_num, by trivial, HN.out⟩
     case measure => simp [intOf]; omega
    ·have HR : Hid (plainOk 12 s = false) := by
      show plainOk 12 s = false;unfold plainOk;rw [if_neg (by decide), if_neg (by decide), if_pos rfl, List.all_eq_false];refine ⟨s[k], List.getElem_mem hlt, ?_⟩;rw [hbk];simp only [Bool.and_eq_true, decide_eq_true_eq, UInt8.le_iff_toNat_le];exact fun h => hok ⟨h.1, h.2⟩
     clear HP;by_cases h1 : (b.toNat : Int) < 32
     ·go_wp2_with fail
      go_ret;exact ⟨by rw [HR.out]; rfl, hb⟩
     ·have h2 : (126 : Int) < (b.toNat : Int) := by omega
      go_wp2_with fail;go_ret;exact ⟨by rw [HR.out]; rfl, hb⟩
   ·have hlti : ¬ (k : Int) < (s.length : Int) := by omega
    have HR : Hid (plainOk 12 s = true) := by
     show plainOk 12 s = true;unfold plainOk;rw [if_neg (by decide), if_neg (by decide), if_pos rfl, List.all_eq_true];intro b hbm;obtain ⟨j, hj, rfl⟩ := List.getElem_of_mem hbm;have := HP.out j hj (by omega);simp only [Bool.and_eq_true, decide_eq_true_eq, UInt8.le_iff_toNat_le];exact this
    go_wp2_with fail;go_ret;exact ⟨by rw [HR.out]; rfl, hb⟩
 ·have HN : Hid (plainOk t s = decide (t = 4)) := by
   show plainOk t s = decide (t = 4);unfold plainOk;rw [if_neg h1, if_neg h2, if_neg h12]
  go_enter Tryz.func204, Tryz.ntmps204;go_wp2_with fail;go_ret;exact ⟨by rw [HN.out]; rfl, (HL _ rfl).1⟩
def RightC (n : Nat) : Prop := ∀ (x : It n) (v : Value) (d : Nat) (w : World), ItAt w n v x -> szI n x <= 20000000 -> d <= 6 -> Calls Tryz.prog 187 #[v, zI (d : Int)] w fun e w' => e = .returned (.bool (rightI n x d)) /\ zW w w'
theorem right_step (n : Nat) (IH : Hid (RightC n)) (t : Int) (s : List UInt8) (ks : List (It n)) (a : Value) (d : Nat) (w : World) (hx : KidsAt w (ItAt w n) a ks) (hz : szI (n + 1) (It.mk t s ks) <= 20000000) (hd : d <= 6) :
  Calls Tryz.prog 187 #[.agg #[zI t, zG ⟨s.toArray⟩, a], zI (d : Int)] w fun e w' => e = .returned (.bool (rightI (n + 1) (It.mk t s ks) d)) /\ zW w w' := by
 have hx0 := hx;obtain ⟨ax, cx, rfl, _⟩ := hx0;have hsz := szI_kid hz;obtain ⟨l, hle⟩ := zE (ks.length);have HE : Hid (ks.length = l /\ szI (n + 1) (It.mk t s ks) <= 20000000) := ⟨hle, hz⟩;have hlb : l <= 20000000 := by rw [<- hle]; exact hsz.2.1
 rw [hle] at hx |-;have HX : Hid (KidsAt w (ItAt w n) (zS ax l cx) ks) := hx;have HL := one_laid w (zI t) (zG ⟨s.toArray⟩) (zS ax l cx) 178;have HN : Hid (rightI (n + 1) (It.mk t s ks) d = (if t ≠ 48 then decide (ks.length = 0) && plainOk t s else decide (s.length = 0) && decide (ks.length <= 40) && decide (d < 6) && ks.all fun y => rightI n y (d + 1))) := rfl;obtain ⟨W2, hW2⟩ : ∃ W, W = w.alloc (Obj.cells #[Value.int IntKind.i64 t, Value.string { data := s.toArray }, Value.slice ax l cx] 178) := ⟨_, rfl⟩;have HW := HL W2 hW2;have HW2 := zH (zJ HW.1 (zJ HW.2.1 HW.2.2.2.2));clear hx hz hle;by_cases h48 : t = 48
 ·subst h48
  have hssz : (⟨s.toArray⟩ : ByteArray).size = s.length := by show s.toArray.size = _; simp
  by_cases hs0 : s = []
  ·subst hs0
   by_cases hl40 : l <= 40
   ·by_cases hd6 : d < 6
    ·have hl40i : ¬ (40 : Int) < (l : Int) := by omega
     have hd6i : ¬ (6 : Int) <= (d : Int) := by omega
     have hdw : IntKind.i64.wrap ((d : Int) + 1) = ((d + 1 : Nat) : Int) := by rw [IntKind.wrap_i64]; omega
     have HR0 : Hid (rightI (n + 1) (It.mk 48 [] ks) d = ks.all fun y => rightI n y (d + 1)) := by
      show rightI (n + 1) (It.mk 48 [] ks) d = _;rw [HN.out, HE.1];simp [hl40, hd6]
     clear HL HW hsz;go_enter Tryz.func187, Tryz.ntmps187;go_wp2_with fail;rw [<- hW2];clear hW2
     go_loopw [5] (fun iv wr => ∃ k : Nat, k <= l /\ iv = zI (k : Int) /\ Hid (zW W2 wr /\ ∀ j (hj : j < ks.length), j < k -> rightI n ks[j] (d + 1) = true)) (fun iv _ => l - (intOf iv).toNat)
     case atStart => exact ⟨0, Nat.zero_le _, rfl, Below.refl _ _, fun j _ h => absurd h (Nat.not_lt_zero _)⟩
     case round =>
      obtain ⟨k, hk, rfl, HB⟩ := hrel;have p1 : wr.cell? ⟨w.heap.size, 2, none⟩ = some (zS ax l cx) := (HB.1.cell (p := ⟨w.heap.size, 2, none⟩) HW2.2.1).trans HW2.2.2;have HWR : Hid (zW w wr) := HW2.1.trans (HB.1.mono HW2.1.size);by_cases hlt : k < l
      ·have hlti : (k : Int) < (l : Int) := by omega
       have hk0 : (0 : Int) <= (k : Int) := by omega
       have hj1 : k < ks.length := by rw [HE.1]; exact hlt
       obtain ⟨g1, o1, t1, s1, k1, hax, hg1, hc1, hi1⟩ := HX.out.get hj1;obtain ⟨c10, c11, c12⟩ := Cells3.below (w' := wr) (t := t1) (s := s1) (k := k1) hc1 hg1 HWR.out;have HR := IH.out ks[k] (.agg #[t1, s1, k1]) (d + 1) wr (ItAt.below HWR.out hi1) ((szI_kid HE.2).2.2 _ (List.getElem_mem hj1)) (by omega);rw [show ((d + 1 : Nat) : Int) = (d : Int) + 1 by omega] at HR;subst hax;clear hc1 hi1 hg1
       cases hb : rightI n ks[k] (d + 1) with
       | true =>
        rw [hb] at HR;have HT : Hid (∀ j (hj : j < ks.length), j < k + 1 -> rightI n ks[j] (d + 1) = true) := fun j hj hjk => by
         by_cases e : j = k
         ·subst e; exact hb
         ·exact HB.2 j hj (by omega)
        clear hb;go_wp2_with fail;refine HR.mono ?_;rintro e w3 ⟨rfl, hb3⟩;have H3 : Hid (zW W2 w3) := HB.1.trans (hb3.mono HB.1.size);clear HR hb3 c10 c11 c12 p1;go_wp2_with fail;exact ⟨⟨k + 1, by omega, by go_num, H3.out, HT.out⟩, by simp [intOf]; omega⟩
       | false =>
        rw [hb] at HR;have HF : Hid (rightI (n + 1) (It.mk 48 [] ks) d = false) := by
         show rightI (n + 1) (It.mk 48 [] ks) d = false;rw [HR0.out, List.all_eq_false];exact ⟨ks[k], List.getElem_mem hj1, by rw [hb]; simp⟩
        clear hb;go_wp2_with fail;refine HR.mono ?_;rintro e w3 ⟨rfl, hb3⟩;have H3 : Hid (zW w w3) := HWR.trans (hb3.mono HWR.size);clear HR hb3 c10 c11 c12 p1;go_wp2_with fail;go_ret;exact ⟨by rw [HF.out]; rfl, H3.out⟩
      ·have hlti : ¬ (k : Int) < (l : Int) := by omega
       have HF : Hid (rightI (n + 1) (It.mk 48 [] ks) d = true) := by
        show rightI (n + 1) (It.mk 48 [] ks) d = true;rw [HR0.out, List.all_eq_true];intro y hy;obtain ⟨j, hj, rfl⟩ := List.getElem_of_mem hy;exact HB.2 j hj (by have := HE.1; omega)
       go_wp2_with fail;go_ret;exact ⟨by rw [HF.out]; rfl, HWR.out⟩
    ·have hl40i : ¬ (40 : Int) < (l : Int) := by omega
     have hd6i : (6 : Int) <= (d : Int) := by omega
     have HF : Hid (rightI (n + 1) (It.mk 48 [] ks) d = false) := by
      show rightI (n + 1) (It.mk 48 [] ks) d = false;rw [HN.out];simp [hd6]
     go_enter Tryz.func187, Tryz.ntmps187;go_wp2_with fail;go_ret;exact ⟨by rw [HF.out]; rfl, (HL _ rfl).1⟩
   ·have hl40i : (40 : Int) < (l : Int) := by omega
    have HF : Hid (rightI (n + 1) (It.mk 48 [] ks) d = false) := by
     show rightI (n + 1) (It.mk 48 [] ks) d = false;rw [HN.out, HE.1];simp [hl40]
    go_enter Tryz.func187, Tryz.ntmps187;go_wp2_with fail;go_ret;exact ⟨by rw [HF.out]; rfl, (HL _ rfl).1⟩
  ·have hsn : (s == []) = false := by simpa using hs0
   have hsl : ¬ s.length = 0 := fun h => hs0 (List.eq_nil_of_length_eq_zero h)
   have HF : Hid (rightI (n + 1) (It.mk 48 s ks) d = false) := by
    show rightI (n + 1) (It.mk 48 s ks) d = false;rw [HN.out];simp [hsl]
   go_enter Tryz.func187, Tryz.ntmps187;go_wp2_with fail;go_ret;exact ⟨by rw [HF.out]; rfl, (HL _ rfl).1⟩
 ·have h48b : (t != 48) = true := by simpa using h48
  by_cases hl0 : l = 0
  ·subst hl0
   have HF : Hid (rightI (n + 1) (It.mk t s ks) d = plainOk t s) := by
    show rightI (n + 1) (It.mk t s ks) d = plainOk t s;rw [HN.out, HE.1, if_pos h48];simp
   have EP := plain_any t s (zS ax 0 cx) W2 hsz.1;obtain ⟨P, hP⟩ := zE (plainOk t s);rw [hP] at EP HF;clear hP HL;go_enter Tryz.func187, Tryz.ntmps187;go_wp2_with fail;rw [<- hW2];refine EP.mono ?_;rintro e w3 ⟨rfl, hb3⟩;have H3 : Hid (zW w w3) := HW2.1.trans (hb3.mono HW2.1.size);clear hb3 EP HW hW2;go_wp2_with fail;go_ret;exact ⟨by rw [HF.out]; rfl, H3.out⟩
  ·have hl0i : ¬ (l : Int) = 0 := by omega
   have HF : Hid (rightI (n + 1) (It.mk t s ks) d = false) := by
    show rightI (n + 1) (It.mk t s ks) d = false;rw [HN.out, HE.1, if_pos h48];simp [hl0]
   go_enter Tryz.func187, Tryz.ntmps187;go_wp2_with fail;go_ret;exact ⟨by rw [HF.out]; rfl, (HL _ rfl).1⟩
theorem itRight_any : ∀ (n : Nat), RightC n
 | 0 => fun _ _ _ _ h _ _ => h.elim
 | n + 1 => fun x v d w hx hz hd => by
  obtain ⟨kx, rfl, hkx⟩ := hx;exact right_step n (itRight_any n) (It.tag x) (It.text x) (It.kids x) kx d w hkx hz hd
theorem ItAt.parts {w : World} : ∀ {n : Nat} {v : Value} {x : It n}, ItAt w n v x -> ∃ (t : Int) (s : ByteArray) (ao : Option Addr) (l cap : Nat), v = .agg #[zI t, zG s, zS ao l cap]
 | 0, _, _, h => h.elim
 | _ + 1, _, x, ⟨k, hv, hk⟩ => by
  obtain ⟨ao, cap, rfl, _⟩ := hk;exact ⟨_, _, _, _, _, hv⟩
theorem specItemOk_any (n : Nat) (x : It n) (v : Value) (w : World) (hx : ItAt w n v x) (hz : szI n x <= 20000000) : Calls Tryz.prog 152 #[v] w fun e w' => e = .returned (.bool (rightI n x 0)) /\ zW w w' := by
 obtain ⟨t, s, ao, l, cap, rfl⟩ := hx.parts;obtain ⟨W2, hW2⟩ : ∃ W, W = w.alloc (Obj.cells #[Value.int IntKind.i64 t, Value.string s, Value.slice ao l cap] 178) := ⟨_, rfl⟩;have HW := one_laid w (zI t) (zG s) (zS ao l cap) 178 W2 hW2;have E := itRight_any n x _ 0 W2 (ItAt.below HW.1 hx) hz (by omega);obtain ⟨P, hP⟩ := zE (rightI n x 0);rw [hP] at E |-;clear hP hx hz;go_enter Tryz.func152, Tryz.ntmps152;go_wp2_with fail;rw [<- hW2];refine E.mono ?_;rintro e w3 ⟨rfl, hb3⟩;have H3 : Hid (zW w w3) := HW.1.trans (hb3.mono HW.1.size);clear hb3 E HW hW2;go_wp2_with fail;go_ret;exact ⟨rfl, H3.out⟩
end Go.Proofs.YtabfamhaihnccaaGreat
namespace Go.Proofs.YtabfamhaihnccaaGreat
open Go.RowKit Der
theorem cloneB_any (s : ByteArray) (w : World) (hs : s.size <= 1000000000000) : Calls Tryz.prog 148 #[zG s] w fun e w' => e = .returned (zG s) /\ zW w w' := by
 go_enter Tryz.func148, Tryz.ntmps148;go_wp2_with (go_at_call 186; refine (Tryz.stringslite_Clone s _ (by omega)).mono ?_; rintro e w1 ⟨rfl, hb1⟩);go_ret;exact ⟨rfl, hb1⟩
def lineB (l : List UInt8) : Bool := l.all fun b => decide (32 <= b) && decide (b <= 126)
theorem lineB_bad {s : ByteArray} {k : Nat} (hk : k < s.size) (h : s[k].toNat < 32 ∨ 126 < s[k].toNat) : lineB s.data.toList = false := by
 unfold lineB;rw [List.all_eq_false];refine ⟨s[k], ?_, ?_⟩
 ·rw [List.mem_iff_getElem]
  exact ⟨k, by simpa using hk, rfl⟩
 ·simp only [Bool.and_eq_true, decide_eq_true_eq, UInt8.le_iff_toNat_le]
  intro h2;have h3 : (32 : UInt8).toNat = 32 := rfl;have h4 : (126 : UInt8).toNat = 126 := rfl;omega
theorem lineB_ok {s : ByteArray} (h : ∀ k (hk : k < s.size), 32 <= s[k].toNat /\ s[k].toNat <= 126) : lineB s.data.toList = true := by
 unfold lineB;rw [List.all_eq_true];intro b hb;obtain ⟨k, hk, rfl⟩ := List.getElem_of_mem hb;have := h k (by simpa using hk);simp only [Bool.and_eq_true, decide_eq_true_eq, UInt8.le_iff_toNat_le];exact this
theorem plainLineB_any (s : ByteArray) (w : World) (hs : s.size <= 1000000000000) : Calls Tryz.prog 206 #[zG s] w fun e w' => e = .returned (.bool (lineB s.data.toList)) /\ zW w w' := by
 have hcv := fun w => run_bytes_of_string (P := Tryz.prog) w 9 201 5 s Tryz.underlying9 Tryz.underlying201 Tryz.underlying5
 go_enter Tryz.func206, Tryz.ntmps206
 go_wp2
 generalize hC : grownCap w s.size 0 5 = C;have HCell : Hid (∀ j (hj : j < s.size), ((w.alloc (.cells (bytesRow s C) 5 ((bytesRow s C).size, (bytesRow s C).size + 1))).drew).cell? ⟨w.heap.size, j, none⟩ = some (.int .u8 ((s[j]'hj).toNat : Int))) := fun j hj => by
  show (w.alloc (.cells (bytesRow s C) 5 ((bytesRow s C).size, (bytesRow s C).size + 1))).cell? ⟨w.heap.size, j, none⟩ = _;rw [World.cell?_alloc_mark, bytesRow_at s C j hj]; rfl
 clear hC hcv
 go_loopw [8] (fun iv wr => ∃ k : Nat, k <= s.size /\ iv = zI k /\ Hid (∀ j (hj : j < s.size), j < k -> 32 <= s[j].toNat /\ s[j].toNat <= 126) /\ (w.alloc (.cells (bytesRow s C) 5 ((bytesRow s C).size, (bytesRow s C).size + 1))).drew = wr) (fun iv _ => s.size - (intOf iv).toNat)
 case atStart => exact ⟨0, Nat.zero_le _, rfl, fun j _ h => absurd h (Nat.not_lt_zero _), rfl⟩
 case round =>
  obtain ⟨k, hk, rfl, HP, rfl⟩ := hrel;by_cases hlt : k < s.size
  ·have hc := s[k].toNat_lt
   have hck : (w.alloc (.cells (bytesRow s C) 5 ((bytesRow s C).size, (bytesRow s C).size + 1))).cell? ⟨w.heap.size, k, none⟩ = some (.int .u8 (s[k].toNat : Int)) := HCell.out k hlt;by_cases h1 : s[k].toNat < 32
   ·have HF : Hid (lineB s.data.toList = false) := lineB_bad hlt (.inl h1)
    go_wp2
    go_ret;exact ⟨by rw [HF.out]; rfl, ((Below.refl _ _).alloc (Nat.le_refl _) _).drew⟩
   ·by_cases h2 : 126 < s[k].toNat
    ·have HF : Hid (lineB s.data.toList = false) := lineB_bad hlt (.inr h2)
     go_wp2
     go_ret;exact ⟨by rw [HF.out]; rfl, ((Below.refl _ _).alloc (Nat.le_refl _) _).drew⟩
    ·have HN : Hid (∀ j (hj : j < s.size), j < k + 1 -> 32 <= s[j].toNat /\ s[j].toNat <= 126) := fun j hj hjk => by
      by_cases e : j = k
      ·subst e; omega
      ·exact HP.out j hj (by omega)
     go_wp2
     go_roundw
     case rel => exact ⟨k + 1, by omega, by go_num, HN, by first | rfl | trivial⟩
     case measure => simp [intOf]; omega
  ·have HF : Hid (lineB s.data.toList = true) := lineB_ok fun j hj => HP.out j hj (by omega)
   go_wp2
   go_ret;exact ⟨by rw [HF.out]; rfl, ((Below.refl _ _).alloc (Nat.le_refl _) _).drew⟩
theorem ownTexts_any (v : Value) (l : List ByteArray) (w : World) (hl : l.length <= 20000000) (hsz : ∀ s ∈ l, s.size <= 1000000000) (h : TxtAt w v l) :
  Calls Tryz.prog 203 #[v] w fun e w' => ∃ u, e = .returned u /\ OwnT w' w.heap.size u l /\ zW w w' := by
 obtain ⟨i0, hi, hz0, hz1, hz2⟩ := info_parts info9;obtain ⟨ao, cap, rfl, hc⟩ := h;obtain ⟨n, hn⟩ := zE (l.length);have HC : Hid ((∀ j, j < l.length -> ∃ g, ao = some ⟨g, 0, none⟩ /\ g < w.heap.size /\ w.cell? ⟨g, j, none⟩ = some (zG (l.getD j ByteArray.empty))) /\ l.length = n /\ ∀ s ∈ l, s.size <= 1000000000) := ⟨hc, hn, hsz⟩;rw [hn] at hl |-;clear hc hn hsz;go_enter Tryz.func203, Tryz.ntmps203;go_wp2_with fail
 go_loopw [3, 8] (fun lv iv wr => ∃ k : Nat, k <= n /\ iv = zI k /\ Hid (OwnT wr w.heap.size lv (l.take k) /\ zW w wr)) (fun _ iv _ => n - (intOf iv).toNat)
 case atStart => exact ⟨0, Nat.zero_le _, rfl, World.ownsRow_nil _ _ _ _, Below.refl _ _⟩
 case round =>
  obtain ⟨k, hk, rfl, HK⟩ := hrel;have hlk : (l.take k).length = k := by rw [List.length_take, HC.2.1]; omega
  obtain ⟨la, lc, hlv⟩ : ∃ ao cap, u3 = zS ao (l.take k).length cap := by obtain ⟨ao, cap, h, _⟩ := HK.1.at; exact ⟨ao, cap, h⟩
  rw [hlk] at hlv;subst hlv;have HLEN : Hid ((l.take k).length = k) := hlk;clear hlk;by_cases hlt : k < n
  ·have hki : (k : Int) < (n : Int) := by omega
   have hk0 : (0 : Int) <= (k : Int) := by omega
   have hj : k < l.length := by rw [HC.2.1]; exact hlt
   obtain ⟨g, hao, hg, hcx⟩ := HC.1 k hj;have c1 : wr.cell? ⟨g, k, none⟩ = some (zG (l.getD k ByteArray.empty)) := (HK.2.cell (p := ⟨g, k, none⟩) hg).trans hcx;have hmem : l.getD k ByteArray.empty ∈ l := by rw [List.getD_eq_getElem?_getD, List.getElem?_eq_getElem hj]; exact List.getElem_mem _
   have hxs := HC.2.2 _ hmem;have HN : Hid (l.take (k + 1) = l.take k ++ [l.getD k ByteArray.empty]) := by
    show l.take (k + 1) = _;rw [<- List.take_append_getElem hj];simp [List.getD, hj]
   generalize l.getD k ByteArray.empty = x at *;subst hao;clear hcx hg hmem;go_wp2_with fail;refine (cloneB_any x wr (by omega)).mono ?_;rintro e w3 ⟨rfl, hb3⟩;obtain ⟨W4, hW4⟩ : ∃ V, V = w3.alloc (Obj.cells #[zG x] 9) := ⟨_, rfl⟩;have hb34 : zW wr W4 := by
    rw [hW4];exact hb3.alloc hb3.size _
   have H4 := zH (zJ (HK.1.stays hb34) (zJ (by rw [hW4]; exact World.ownsRow_lit w3 #[zG x] 1 (Nat.le_refl _) (by decide) rfl : OwnT W4 w3.heap.size (zS (some ⟨w3.heap.size, 0, none⟩) 1 1) [x]) (HK.2.trans (hb34.mono HK.2.size))));clear hb3 hb34 HK c1;go_wp2_with (at_builtin; rw [<- hW4]; refine wpList_append_texts2 rfl _ _ 46 rfl w.heap.size i0 Tryz.underlying46 hi hz0 hz1 hz2 (zS la k lc) (l.take k).length (cellsT (l.take k)) rfl H4.1 _ [x] w3.heap.size H4.2.1 rfl (by have := HLEN.out; simp only [List.length_singleton]; omega) H4.2.2.size ?_);intro v9 w9 ho9 hg9;rw [<- hW4] at hg9;have H9 : Hid (OwnT w9 w.heap.size v9 (l.take (k + 1)) /\ zW w w9) := by
    have hrl := fun b hb => (World.ownsRow.lt H4.1 b hb).1
    refine ⟨?_, H4.2.2.grown hg9 H4.2.2.size hrl⟩;rw [HN.out];simpa [OwnT, cellsT_append] using ho9
   clear ho9 hg9 H4 hW4;go_wp2_with fail;exact ⟨⟨k + 1, by omega, by go_num, H9⟩, by simp [intOf]; omega⟩
  ·have hki : ¬ (k : Int) < (n : Int) := by omega
   have HE : Hid (OwnT wr w.heap.size (zS la k lc) l /\ zW w wr) := by
    have h := HK.1;rw [List.take_of_length_le (by have := HC.2.1; omega)] at h;exact ⟨h, HK.2⟩
   go_wp2_with fail;go_ret;exact ⟨_, rfl, HE.1, HE.2⟩
theorem ownCert_any (c : Ct) (v : Value) (bs : Nat) (w : World) (hl : wtC c <= 1048576) (ha : OwnC w bs v c) :
  Calls Tryz.prog 184 #[v] w fun e w' => ∃ u, e = .returned u /\ OwnC w' w.heap.size u c /\ zW w w' := by
 obtain ⟨z1, z2, z3, z4, z5, z6, z7, z8, z9⟩ := wt_parts hl;obtain ⟨i0, hi, hz0, hz1, hz2⟩ := info_parts info3;obtain ⟨p, e, d, rfl, h1, h2, h3, h4⟩ := ha;obtain ⟨pa, pc, hp⟩ : ∃ ao cap, p = zS ao c.pol.length cap := by obtain ⟨ao, cap, h, _⟩ := h1.at; exact ⟨ao, cap, h⟩
 obtain ⟨ea, ec, he⟩ : ∃ ao cap, e = zS ao c.per.length cap := by obtain ⟨ao, cap, h, _⟩ := h2.at; exact ⟨ao, cap, h⟩
 obtain ⟨da, dc, hd⟩ : ∃ ao cap, d = zS ao c.den.length cap := by obtain ⟨ao, cap, h, _⟩ := h3.at; exact ⟨ao, cap, h⟩
 obtain ⟨lp, hlp⟩ := zE (c.pol.length);obtain ⟨le, hle⟩ := zE (c.per.length);obtain ⟨ld, hld⟩ := zE (c.den.length);rw [hlp] at hp;rw [hle] at he;rw [hld] at hd;subst hp he hd;have HL : Hid ((OwnI w bs (zS pa lp pc) c.pol /\ TxtAt w (zS ea le ec) c.per /\ TxtAt w (zS da ld dc) c.den) /\ (c.pol.length = lp /\ c.per.length = le /\ c.den.length = ld) /\ (c.pol.length <= 1048576 /\ c.per.length <= 1048576 /\ c.den.length <= 1048576) /\ (∀ s ∈ c.per, s.size <= 1000000000) /\ (∀ s ∈ c.den, s.size <= 1000000000) /\ (c.issuer.size <= 1048576 /\ c.subject.size <= 1048576 /\ c.key.size <= 1048576 /\ c.sig.size <= 1048576)) := ⟨⟨h1, h2.at, h3.at⟩, ⟨hlp, hle, hld⟩, ⟨z4, z5, z6⟩, fun s hs => Nat.le_trans (z8 s hs) (by decide), fun s hs => Nat.le_trans (z9 s hs) (by decide), z1, z2, z3, z7⟩;clear h1 h2 h3 h4 hl z1 z2 z3 z4 z5 z6 z7 z8 z9 hlp hle hld;unfold ctV;go_enter Tryz.func184, Tryz.ntmps184;go_wp2_with fail;obtain ⟨W0, hW0⟩ : ∃ W, W = (w.alloc (Obj.cells (zCt c (zS pa lp pc) (zS ea le ec) (zS da ld dc)) 52)).alloc (Obj.cells #[zI 0, zG ⟨#[]⟩, zG ⟨#[]⟩, zI 0, zI 0, zG ⟨#[]⟩, .bool false, zI 0, zI 0, zZ, zZ, zZ, zG ⟨#[]⟩] 52) := ⟨_, rfl⟩;rw [<- hW0];have G0 : Hid (Blk W0 w.heap.size 52 (zCt c (zS pa lp pc) (zS ea le ec) (zS da ld dc)) /\ Blk W0 (w.heap.size + 1) 52 #[zI 0, zG ⟨#[]⟩, zG ⟨#[]⟩, zI 0, zI 0, zG ⟨#[]⟩, .bool false, zI 0, zI 0, zZ, zZ, zZ, zG ⟨#[]⟩] /\ zW w W0 /\ w.heap.size + 2 <= W0.heap.size /\ (True)) := by
  have e0 : (w.alloc (Obj.cells (zCt c (zS pa lp pc) (zS ea le ec) (zS da ld dc)) 52)).heap.size = w.heap.size + 1 := Array.size_push _;have h := Blk.new (w.alloc (Obj.cells (zCt c (zS pa lp pc) (zS ea le ec) (zS da ld dc)) 52)) 52 #[zI 0, zG ⟨#[]⟩, zG ⟨#[]⟩, zI 0, zI 0, zG ⟨#[]⟩, .bool false, zI 0, zI 0, zZ, zZ, zZ, zG ⟨#[]⟩];rw [e0] at h;rw [hW0];exact ⟨(Blk.new w _ _).alloc _, h, ((Below.refl _ _).alloc (Nat.le_refl _) _).alloc (by rw [e0]; omega) _, by rw [size_alloc, e0]; omega, trivial⟩
 clear hW0;have wd1 : w.heap.size ≠ w.heap.size + 1 := by omega
 refine (cloneB_any c.issuer W0 (by have := HL.2.2.2.2.2.1; omega)).mono ?_;rintro r u1 ⟨rfl, hb⟩;have F1 := zH (zJ (G0.1.below hb G0.1.lt) (zJ (G0.2.1.below hb G0.2.1.lt) (zJ (G0.2.2.1.trans (hb.mono G0.2.2.1.size)) (zJ (Nat.le_trans G0.2.2.2.1 hb.size) (trivial : (True))))));clear hb G0;have dj := fun j => F1.1.cell j
 have fj := fun j => F1.1.free j
 have nj := fun j => F1.1.cell j
 go_wp2_with fail;obtain ⟨V2, hV⟩ : ∃ V, V = u1.setCell ⟨w.heap.size, 1, none⟩ (zG c.issuer) := ⟨_, rfl⟩;rw [<- hV];have G2 : Hid (Blk V2 w.heap.size 52 (zCt c (zS pa lp pc) (zS ea le ec) (zS da ld dc)) /\ Blk V2 (w.heap.size + 1) 52 #[zI 0, zG ⟨#[]⟩, zG ⟨#[]⟩, zI 0, zI 0, zG ⟨#[]⟩, .bool false, zI 0, zI 0, zZ, zZ, zZ, zG ⟨#[]⟩] /\ zW w V2 /\ w.heap.size + 2 <= V2.heap.size /\ (True)) := by
  have hbs : Below w.heap.size u1 V2 := by rw [hV]; exact (Below.refl _ _).setCell (p := ⟨w.heap.size, 1, none⟩) (Nat.le_refl _) _
  have hot : ∀ b, w.heap.size + 1 <= b -> V2.heap[b]? = u1.heap[b]? := fun b hb => by rw [hV]; exact heap_setCell_other _ _ _ _ (by show b ≠ w.heap.size; omega)
  exact ⟨by rw [hV]; exact F1.1.set 1 _, (hot _ (Nat.le_refl _)).trans F1.2.1, F1.2.2.1.trans hbs, Nat.le_trans F1.2.2.2.1 hbs.size, trivial⟩
 clear hV F1 dj fj nj;refine (cloneB_any c.subject V2 (by have := HL.2.2.2.2.2.2.1; omega)).mono ?_;rintro r u3 ⟨rfl, hb⟩;have F3 := zH (zJ (G2.1.below hb G2.1.lt) (zJ (G2.2.1.below hb G2.2.1.lt) (zJ (G2.2.2.1.trans (hb.mono G2.2.2.1.size)) (zJ (Nat.le_trans G2.2.2.2.1 hb.size) (trivial : (True))))));clear hb G2;have dj := fun j => F3.1.cell j
 have fj := fun j => F3.1.free j
 have nj := fun j => F3.1.cell j
 go_wp2_with fail;obtain ⟨V4, hV⟩ : ∃ V, V = u3.setCell ⟨w.heap.size, 2, none⟩ (zG c.subject) := ⟨_, rfl⟩;rw [<- hV];have G4 : Hid (Blk V4 w.heap.size 52 (zCt c (zS pa lp pc) (zS ea le ec) (zS da ld dc)) /\ Blk V4 (w.heap.size + 1) 52 #[zI 0, zG ⟨#[]⟩, zG ⟨#[]⟩, zI 0, zI 0, zG ⟨#[]⟩, .bool false, zI 0, zI 0, zZ, zZ, zZ, zG ⟨#[]⟩] /\ zW w V4 /\ w.heap.size + 2 <= V4.heap.size /\ (True)) := by
  have hbs : Below w.heap.size u3 V4 := by rw [hV]; exact (Below.refl _ _).setCell (p := ⟨w.heap.size, 2, none⟩) (Nat.le_refl _) _
  have hot : ∀ b, w.heap.size + 1 <= b -> V4.heap[b]? = u3.heap[b]? := fun b hb => by rw [hV]; exact heap_setCell_other _ _ _ _ (by show b ≠ w.heap.size; omega)
  exact ⟨by rw [hV]; exact F3.1.set 2 _, (hot _ (Nat.le_refl _)).trans F3.2.1, F3.2.2.1.trans hbs, Nat.le_trans F3.2.2.2.1 hbs.size, trivial⟩
 clear hV F3 dj fj nj;refine (cloneB_any c.key V4 (by have := HL.2.2.2.2.2.2.2.1; omega)).mono ?_;rintro r u5 ⟨rfl, hb⟩;have F5 := zH (zJ (G4.1.below hb G4.1.lt) (zJ (G4.2.1.below hb G4.2.1.lt) (zJ (G4.2.2.1.trans (hb.mono G4.2.2.1.size)) (zJ (Nat.le_trans G4.2.2.2.1 hb.size) (trivial : (True))))));clear hb G4;have dj := fun j => F5.1.cell j
 have fj := fun j => F5.1.free j
 have nj := fun j => F5.1.cell j
 obtain ⟨V6, hV⟩ : ∃ V, V = u5.setCell ⟨w.heap.size, 5, none⟩ (zG c.key) := ⟨_, rfl⟩;have GA : Hid (Blk V6 w.heap.size 52 (zCt c (zS pa lp pc) (zS ea le ec) (zS da ld dc)) /\ Blk V6 (w.heap.size + 1) 52 #[zI 0, zG ⟨#[]⟩, zG ⟨#[]⟩, zI 0, zI 0, zG ⟨#[]⟩, .bool false, zI 0, zI 0, zZ, zZ, zZ, zG ⟨#[]⟩] /\ zW w V6 /\ w.heap.size + 2 <= V6.heap.size /\ (True)) := by
  have hbs : Below w.heap.size u5 V6 := by rw [hV]; exact (Below.refl _ _).setCell (p := ⟨w.heap.size, 5, none⟩) (Nat.le_refl _) _
  have hot : ∀ b, w.heap.size + 1 <= b -> V6.heap[b]? = u5.heap[b]? := fun b hb => by rw [hV]; exact heap_setCell_other _ _ _ _ (by show b ≠ w.heap.size; omega)
  exact ⟨by rw [hV]; exact F5.1.set 5 _, (hot _ (Nat.le_refl _)).trans F5.2.1, F5.2.2.1.trans hbs, Nat.le_trans F5.2.2.2.1 hbs.size, trivial⟩
 have HSRC : Hid (OwnI V6 bs (zS pa lp pc) c.pol) := HL.1.1.stays GA.2.2.1;go_wp2_with (at_builtin; rw [<- hV]; refine wpList_append_ints2 rfl _ _ 45 rfl (w.heap.size + 2) i0 Tryz.underlying45 hi hz0 hz1 hz2 zZ 0 [] rfl (World.ownsRow_nil _ _ _ _) _ c.pol bs HSRC.out rfl (by have := HL.2.2.1.1; omega) GA.2.2.2.1 ?_);intro v9 w9 ho9 hg9
 try rw [<- hV] at hg9
 clear dj fj nj hV F5 HSRC;have HV9 : Hid ((Blk w9 w.heap.size 52 (zCt c (zS pa lp pc) (zS ea le ec) (zS da ld dc)) /\ Blk w9 (w.heap.size + 1) 52 #[zI 0, zG ⟨#[]⟩, zG ⟨#[]⟩, zI 0, zI 0, zG ⟨#[]⟩, .bool false, zI 0, zI 0, zZ, zZ, zZ, zG ⟨#[]⟩] /\ zW w w9 /\ w.heap.size + 2 <= w9.heap.size /\ (True)) /\ OwnI w9 (w.heap.size + 2) v9 c.pol) := by
  refine ⟨⟨(hg9.block _ GA.1.lt (fun e => by cases e)).trans GA.1, (hg9.block _ GA.2.1.lt (fun e => by cases e)).trans GA.2.1, GA.2.2.1.grown hg9 GA.2.2.1.size (fun b hb => by cases hb), Nat.le_trans GA.2.2.2.1 hg9.size, trivial⟩, ?_⟩;simpa [OwnI] using ho9
 clear ho9 hg9 GA;obtain ⟨qp, mp, hq9⟩ : ∃ ao cap, v9 = zS ao c.pol.length cap := by obtain ⟨ao, cap, h, _⟩ := HV9.2.at; exact ⟨ao, cap, h⟩
 rw [HL.2.1.1] at hq9;subst hq9;have F9 := zH (zJ HV9.1.1 (zJ HV9.1.2.1 (zJ HV9.1.2.2.1 (zJ HV9.1.2.2.2.1 HV9.2))));clear HV9;have dj := fun j => F9.1.cell j
 have fj := fun j => F9.1.free j
 have nj := fun j => F9.1.cell j
 go_wp2_with fail;obtain ⟨V7, hV⟩ : ∃ V, V = w9.setCell ⟨w.heap.size, 9, none⟩ (zS qp lp mp) := ⟨_, rfl⟩;rw [<- hV];have G7 : Hid (Blk V7 w.heap.size 52 (zCt c (zS qp lp mp) (zS ea le ec) (zS da ld dc)) /\ Blk V7 (w.heap.size + 1) 52 #[zI 0, zG ⟨#[]⟩, zG ⟨#[]⟩, zI 0, zI 0, zG ⟨#[]⟩, .bool false, zI 0, zI 0, zZ, zZ, zZ, zG ⟨#[]⟩] /\ zW w V7 /\ w.heap.size + 2 <= V7.heap.size /\ (OwnI V7 (w.heap.size + 2) (zS qp lp mp) c.pol)) := by
  have hbs : Below w.heap.size w9 V7 := by rw [hV]; exact (Below.refl _ _).setCell (p := ⟨w.heap.size, 9, none⟩) (Nat.le_refl _) _
  have hot : ∀ b, w.heap.size + 1 <= b -> V7.heap[b]? = w9.heap[b]? := fun b hb => by rw [hV]; exact heap_setCell_other _ _ _ _ (by show b ≠ w.heap.size; omega)
  exact ⟨by rw [hV]; exact F9.1.set 9 _, (hot _ (Nat.le_refl _)).trans F9.2.1, F9.2.2.1.trans hbs, Nat.le_trans F9.2.2.2.1 hbs.size, F9.2.2.2.2.block (fun b hb => hot b (by omega))⟩
 clear hV F9 dj fj nj;refine (ownTexts_any (zS ea le ec) c.per V7 (by have := HL.2.2.1; omega) HL.2.2.2.1 (HL.1.2.1.below G7.2.2.1)).mono ?_;rintro r u8 ⟨ve, rfl, ho, hb⟩;obtain ⟨qe, me, hqe⟩ : ∃ ao cap, ve = zS ao c.per.length cap := by obtain ⟨ao, cap, h, _⟩ := ho.at; exact ⟨ao, cap, h⟩
 rw [HL.2.1.2.1] at hqe;subst hqe;have F8 := zH (zJ (G7.1.below hb G7.1.lt) (zJ (G7.2.1.below hb G7.2.1.lt) (zJ (G7.2.2.1.trans (hb.mono G7.2.2.1.size)) (zJ (Nat.le_trans G7.2.2.2.1 hb.size) (⟨G7.2.2.2.2.stays hb, ho.base G7.2.2.2.1, rows_apart G7.2.2.2.2 ho (Nat.le_refl _)⟩ : (OwnI u8 (w.heap.size + 2) (zS qp lp mp) c.pol /\ OwnT u8 (w.heap.size + 2) (zS qe le me) c.per /\ (Ap (zS qp lp mp) (zS qe le me) /\ Ap (zS qe le me) (zS qp lp mp))))))));clear hb ho G7;have dj := fun j => F8.1.cell j
 have fj := fun j => F8.1.free j
 have nj := fun j => F8.1.cell j
 go_wp2_with fail;obtain ⟨V9, hV⟩ : ∃ V, V = u8.setCell ⟨w.heap.size, 10, none⟩ (zS qe le me) := ⟨_, rfl⟩;rw [<- hV];have G9 : Hid (Blk V9 w.heap.size 52 (zCt c (zS qp lp mp) (zS qe le me) (zS da ld dc)) /\ Blk V9 (w.heap.size + 1) 52 #[zI 0, zG ⟨#[]⟩, zG ⟨#[]⟩, zI 0, zI 0, zG ⟨#[]⟩, .bool false, zI 0, zI 0, zZ, zZ, zZ, zG ⟨#[]⟩] /\ zW w V9 /\ w.heap.size + 2 <= V9.heap.size /\ (OwnI V9 (w.heap.size + 2) (zS qp lp mp) c.pol /\ OwnT V9 (w.heap.size + 2) (zS qe le me) c.per /\ (Ap (zS qp lp mp) (zS qe le me) /\ Ap (zS qe le me) (zS qp lp mp)))) := by
  have hbs : Below w.heap.size u8 V9 := by rw [hV]; exact (Below.refl _ _).setCell (p := ⟨w.heap.size, 10, none⟩) (Nat.le_refl _) _
  have hot : ∀ b, w.heap.size + 1 <= b -> V9.heap[b]? = u8.heap[b]? := fun b hb => by rw [hV]; exact heap_setCell_other _ _ _ _ (by show b ≠ w.heap.size; omega)
  exact ⟨by rw [hV]; exact F8.1.set 10 _, (hot _ (Nat.le_refl _)).trans F8.2.1, F8.2.2.1.trans hbs, Nat.le_trans F8.2.2.2.1 hbs.size, ⟨F8.2.2.2.2.1.block (fun b hb => hot b (by omega)), F8.2.2.2.2.2.1.block (fun b hb => hot b (by omega)), F8.2.2.2.2.2.2⟩⟩
 clear hV F8 dj fj nj;refine (ownTexts_any (zS da ld dc) c.den V9 (by have := HL.2.2.1; omega) HL.2.2.2.2.1 (HL.1.2.2.below G9.2.2.1)).mono ?_;rintro r u10 ⟨vd, rfl, ho, hb⟩;obtain ⟨qd, md, hqd⟩ : ∃ ao cap, vd = zS ao c.den.length cap := by obtain ⟨ao, cap, h, _⟩ := ho.at; exact ⟨ao, cap, h⟩
 rw [HL.2.1.2.2] at hqd;subst hqd;have F10 := zH (zJ (G9.1.below hb G9.1.lt) (zJ (G9.2.1.below hb G9.2.1.lt) (zJ (G9.2.2.1.trans (hb.mono G9.2.2.1.size)) (zJ (Nat.le_trans G9.2.2.2.1 hb.size) (⟨G9.2.2.2.2.1.stays hb, G9.2.2.2.2.2.1.stays hb, ho.base G9.2.2.2.1, G9.2.2.2.2.2.2, rows_apart G9.2.2.2.2.1 ho (Nat.le_refl _), rows_apart G9.2.2.2.2.2.1 ho (Nat.le_refl _)⟩ : (OwnI u10 (w.heap.size + 2) (zS qp lp mp) c.pol /\ OwnT u10 (w.heap.size + 2) (zS qe le me) c.per /\ OwnT u10 (w.heap.size + 2) (zS qd ld md) c.den /\ (Ap (zS qp lp mp) (zS qe le me) /\ Ap (zS qe le me) (zS qp lp mp)) /\ (Ap (zS qp lp mp) (zS qd ld md) /\ Ap (zS qd ld md) (zS qp lp mp)) /\ (Ap (zS qe le me) (zS qd ld md) /\ Ap (zS qd ld md) (zS qe le me))))))));clear hb ho G9;have dj := fun j => F10.1.cell j
 have fj := fun j => F10.1.free j
 have nj := fun j => F10.1.cell j
 go_wp2_with fail;obtain ⟨V11, hV⟩ : ∃ V, V = u10.setCell ⟨w.heap.size, 11, none⟩ (zS qd ld md) := ⟨_, rfl⟩;rw [<- hV];have G11 : Hid (Blk V11 w.heap.size 52 (zCt c (zS qp lp mp) (zS qe le me) (zS qd ld md)) /\ Blk V11 (w.heap.size + 1) 52 #[zI 0, zG ⟨#[]⟩, zG ⟨#[]⟩, zI 0, zI 0, zG ⟨#[]⟩, .bool false, zI 0, zI 0, zZ, zZ, zZ, zG ⟨#[]⟩] /\ zW w V11 /\ w.heap.size + 2 <= V11.heap.size /\ (OwnI V11 (w.heap.size + 2) (zS qp lp mp) c.pol /\ OwnT V11 (w.heap.size + 2) (zS qe le me) c.per /\ OwnT V11 (w.heap.size + 2) (zS qd ld md) c.den /\ (Ap (zS qp lp mp) (zS qe le me) /\ Ap (zS qe le me) (zS qp lp mp)) /\ (Ap (zS qp lp mp) (zS qd ld md) /\ Ap (zS qd ld md) (zS qp lp mp)) /\ (Ap (zS qe le me) (zS qd ld md) /\ Ap (zS qd ld md) (zS qe le me)))) := by
  have hbs : Below w.heap.size u10 V11 := by rw [hV]; exact (Below.refl _ _).setCell (p := ⟨w.heap.size, 11, none⟩) (Nat.le_refl _) _
  have hot : ∀ b, w.heap.size + 1 <= b -> V11.heap[b]? = u10.heap[b]? := fun b hb => by rw [hV]; exact heap_setCell_other _ _ _ _ (by show b ≠ w.heap.size; omega)
  exact ⟨by rw [hV]; exact F10.1.set 11 _, (hot _ (Nat.le_refl _)).trans F10.2.1, F10.2.2.1.trans hbs, Nat.le_trans F10.2.2.2.1 hbs.size, ⟨F10.2.2.2.2.1.block (fun b hb => hot b (by omega)), F10.2.2.2.2.2.1.block (fun b hb => hot b (by omega)), F10.2.2.2.2.2.2.1.block (fun b hb => hot b (by omega)), F10.2.2.2.2.2.2.2⟩⟩
 clear hV F10 dj fj nj;refine (cloneB_any c.sig V11 (by have := HL.2.2.2.2.2.2.2.2; omega)).mono ?_;rintro r u12 ⟨rfl, hb⟩;have F12 := zH (zJ (G11.1.below hb G11.1.lt) (zJ (G11.2.1.below hb G11.2.1.lt) (zJ (G11.2.2.1.trans (hb.mono G11.2.2.1.size)) (zJ (Nat.le_trans G11.2.2.2.1 hb.size) (⟨G11.2.2.2.2.1.stays hb, G11.2.2.2.2.2.1.stays hb, G11.2.2.2.2.2.2.1.stays hb, G11.2.2.2.2.2.2.2⟩ : (OwnI u12 (w.heap.size + 2) (zS qp lp mp) c.pol /\ OwnT u12 (w.heap.size + 2) (zS qe le me) c.per /\ OwnT u12 (w.heap.size + 2) (zS qd ld md) c.den /\ (Ap (zS qp lp mp) (zS qe le me) /\ Ap (zS qe le me) (zS qp lp mp)) /\ (Ap (zS qp lp mp) (zS qd ld md) /\ Ap (zS qd ld md) (zS qp lp mp)) /\ (Ap (zS qe le me) (zS qd ld md) /\ Ap (zS qd ld md) (zS qe le me))))))));clear hb G11;have a0 := fun j => F12.1.cell j
 have b0 := fun j => F12.2.1.cell j
 have a1 := fun j => F12.1.cell j
 have b1 := fun j => F12.2.1.cell j
 have a2 := fun j => F12.1.cell j
 have b2 := fun j => F12.2.1.cell j
 have a3 := fun j => F12.1.cell j
 have b3 := fun j => F12.2.1.cell j
 have a4 := fun j => F12.1.cell j
 have b4 := fun j => F12.2.1.cell j
 have a5 := fun j => F12.1.cell j
 have b5 := fun j => F12.2.1.cell j
 have a6 := fun j => F12.1.cell j
 have b6 := fun j => F12.2.1.cell j
 have a7 := fun j => F12.1.cell j
 have b7 := fun j => F12.2.1.cell j
 have a8 := fun j => F12.1.cell j
 have b8 := fun j => F12.2.1.cell j
 have a9 := fun j => F12.1.cell j
 have b9 := fun j => F12.2.1.cell j
 have a10 := fun j => F12.1.cell j
 have b10 := fun j => F12.2.1.cell j
 have a11 := fun j => F12.1.cell j
 have b11 := fun j => F12.2.1.cell j
 have a12 := fun j => F12.1.cell j
 have b12 := fun j => F12.2.1.cell j
 have fa := fun j => F12.1.free j
 have fb := fun j => F12.2.1.free j
 go_wp2_with fail;refine bodyPost_ret (v := ctV c (zS qp lp mp) (zS qe le me) (zS qd ld md)) (by simp [results, Tryz.results184, go_sem, ctV, b0, b1, b2, b3, b4, b5, b6, b7, b8, b9, b10, b11, b12]) rfl ⟨_, rfl, ⟨_, _, _, rfl, (F12.2.2.2.2.1.block ?far).base (by omega), (F12.2.2.2.2.2.1.block ?far).base (by omega), (F12.2.2.2.2.2.2.1.block ?far).base (by omega), F12.2.2.2.2.2.2.2.1, F12.2.2.2.2.2.2.2.2.1, F12.2.2.2.2.2.2.2.2.2⟩, ?bel⟩
 case far =>
  intro b hb
  iterate 14 rw [heap_setCell_other _ _ _ _ (by first | (show b ≠ w.heap.size; omega) | (show b ≠ w.heap.size + 1; omega))]
 case bel =>
  iterate 14 refine Below.setCell ?_ (by first | (show w.heap.size <= w.heap.size; omega) | (show w.heap.size <= w.heap.size + 1; omega)) _
  exact F12.2.2.1
end Go.Proofs.YtabfamhaihnccaaGreat
