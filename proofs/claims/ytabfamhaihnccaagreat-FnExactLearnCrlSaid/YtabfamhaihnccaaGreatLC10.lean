/-
  Texts of the proof.
-/
import Derived.Test.YtabfamhaihnccaaGreatLC9
set_option linter.unusedVariables false
set_option linter.unusedSimpArgs false
set_option maxRecDepth 100000
set_option maxHeartbeats 25600000
namespace Go.Proofs.YtabfamhaihnccaaGreat
open Go.RowKit
theorem IntAt.each {w : World} {v : Value} {l : List Int} (h : IntAt w v l) : ∃ ao cap, v = zS ao l.length cap /\ ∀ j, j < l.length -> ∃ g, ao = some ⟨g, 0, none⟩ /\ g < w.heap.size /\ w.cell? ⟨g, j, none⟩ = some (zI (l.getD j 0)) := by
 obtain ⟨ao, cap, hv, h⟩ := h;refine ⟨ao, cap, hv, fun j hj => ?_⟩;obtain ⟨g, hg, hlt, hc⟩ := h (by omega);refine ⟨g, hg, hlt, ?_⟩;rw [hc j hj];simp [List.getD, hj]
theorem specTok_any (v : Value) (l : List ByteArray) (w : World) (hl : l.length <= 1000000000) (hsz : ∀ s ∈ l, s.size <= 1000000000000) (h : TxtAt w v l) : Calls Tryz.prog 151 #[v] w fun e w' => e = .returned (.bool (namesOk l)) /\ zW w w' := by
 obtain ⟨ao, cap, rfl, hc⟩ := h;have HC : Hid (∀ j, j < l.length -> ∃ g, ao = some ⟨g, 0, none⟩ /\ g < w.heap.size /\ w.cell? ⟨g, j, none⟩ = some (Value.string (l.getD j ByteArray.empty))) := hc;have HS : Hid (∀ s ∈ l, s.size <= 1000000000000) := hsz;clear hc hsz;go_enter Tryz.func151, Tryz.ntmps151
 go_wp2
 go_loopw [3] (fun iv wr => ∃ k : Nat, k <= l.length /\ iv = zI k /\ Hid ((∀ j, j < k -> nameOk (l.getD j ByteArray.empty) = true) /\ ∀ j, 0 < j -> j < k -> lsB (l.getD (j - 1) ByteArray.empty) (l.getD j ByteArray.empty) = true) /\ zW w wr) (fun iv _ => l.length - (intOf iv).toNat)
 case atStart => exact ⟨0, Nat.zero_le _, rfl, ⟨fun j hj => absurd hj (Nat.not_lt_zero _), fun j _ hj => absurd hj (Nat.not_lt_zero _)⟩, Below.refl _ _⟩
 case round =>
  obtain ⟨k, hk, rfl, HI, hbel⟩ := hrel;by_cases hlt : k < l.length
  ·obtain ⟨g, hao, hg, hcx⟩ := HC.out k hlt
   have c1 : wr.cell? ⟨g, k, none⟩ = some (Value.string (l.getD k ByteArray.empty)) := (hbel.cell (p := ⟨g, k, none⟩) hg).trans hcx;have hki : (k : Int) < (l.length : Int) := by omega
   have hk0 : (0 : Int) <= (k : Int) := by omega
   have hb2 : Hid (zW w wr) := hbel;have HQ1 : Hid (nameOk (l.getD k ByteArray.empty) = false -> namesOk l = false) := fun q => ok_bad k hlt q
   have HQ2 : Hid (0 < k -> lsB (l.getD (k - 1) ByteArray.empty) (l.getD k ByteArray.empty) = false -> namesOk l = false) := fun h0 q => ok_down k h0 hlt q
   have HQ3 : Hid (nameOk (l.getD k ByteArray.empty) = true -> (0 < k -> lsB (l.getD (k - 1) ByteArray.empty) (l.getD k ByteArray.empty) = true) -> (∀ j, j < k + 1 -> nameOk (l.getD j ByteArray.empty) = true) /\ ∀ j, 0 < j -> j < k + 1 -> lsB (l.getD (j - 1) ByteArray.empty) (l.getD j ByteArray.empty) = true) := fun q q2 => ⟨fun j hj => by
     by_cases e : j = k
     ·rw [e]; exact q
     ·exact HI.1 j (by omega), fun j h0 hj => by
     by_cases e : j = k
     ·rw [e]; exact q2 (by omega)
     ·exact HI.2 j h0 (by omega)⟩
   have hxs : (l.getD k ByteArray.empty).size <= 1000000000000 := HS.out _ (by rw [List.getD_eq_getElem?_getD, List.getElem?_eq_getElem hlt]; exact List.getElem_mem _);have HY : Hid (0 < k -> wr.cell? ⟨g, k - 1, none⟩ = some (Value.string (l.getD (k - 1) ByteArray.empty))) := fun h0 => by
    obtain ⟨g2, e2, hg2, hcy⟩ := HC.out (k - 1) (by omega);rw [hao] at e2;simp at e2;subst e2;exact (hbel.cell (p := ⟨g, k - 1, none⟩) hg2).trans hcy
   generalize hx : l.getD k ByteArray.empty = x at *;generalize hy : l.getD (k - 1) ByteArray.empty = y at *;subst hao;clear hcx hbel HI hx hy
   cases hok : nameOk x with
   | false =>
    have HF : Hid (namesOk l = false) := HQ1.out hok;have EQ : Hid (∀ W, Calls Tryz.prog 124 #[zG x] W fun e w' => e = .returned (.bool false) /\ w' = W) := fun W => (specName_any x W hxs).mono (by rintro e w' ⟨rfl, rfl⟩; exact ⟨by rw [hok], rfl⟩)
    clear HQ1 HQ2 HQ3;go_wp2_with fail
    go_quiet (exact Calls.quiet_of_same (EQ.out _))
    go_wp2_with fail;go_ret;exact ⟨by rw [HF.out]; rfl, below_drewN hb2.out _⟩
   | true =>
    have EQ : Hid (∀ W, Calls Tryz.prog 124 #[zG x] W fun e w' => e = .returned (.bool true) /\ w' = W) := fun W => (specName_any x W hxs).mono (by rintro e w' ⟨rfl, rfl⟩; exact ⟨by rw [hok], rfl⟩)
    by_cases hz : 0 < k
    ·have hzi : (0 : Int) < (k : Int) := by omega
     have c2 := HY.out hz;have wk : IntKind.i64.wrap ((k : Int) - 1) = ((k - 1 : Nat) : Int) := by rw [IntKind.wrap_i64]; omega
     have hk1i : ((k - 1 : Nat) : Int) < (l.length : Int) := by omega
     have hk10 : (0 : Int) <= ((k - 1 : Nat) : Int) := by omega
     cases hl : lsB y x with
     | false =>
      have qc : Op.bytesLess y.toList x.toList = false := hl;have HF : Hid (namesOk l = false) := HQ2.out hz hl;clear HQ1 HQ2 HQ3 hl;generalize k - 1 = m at *;go_wp2_with fail
      go_quiet (exact Calls.quiet_of_same (EQ.out _))
      go_wp2_with fail;go_ret;exact ⟨by rw [HF.out]; rfl, below_drewN hb2.out _⟩
     | true =>
      have qc : Op.bytesLess y.toList x.toList = true := hl;have HN : Hid ((∀ j, j < k + 1 -> nameOk (l.getD j ByteArray.empty) = true) /\ ∀ j, 0 < j -> j < k + 1 -> lsB (l.getD (j - 1) ByteArray.empty) (l.getD j ByteArray.empty) = true) := HQ3.out hok fun _ => hl
      clear HQ1 HQ2 HQ3 hl;generalize k - 1 = m at *;go_wp2_with fail
      go_quiet (exact Calls.quiet_of_same (EQ.out _))
      go_wp2_with fail
      go_roundw
      case rel => exact ⟨k + 1, by omega, by go_num, HN, below_drewN hb2.out _⟩
      case measure => simp [intOf]; omega
    ·have hzi : ¬ (0 : Int) < (k : Int) := by omega
     have HN : Hid ((∀ j, j < k + 1 -> nameOk (l.getD j ByteArray.empty) = true) /\ ∀ j, 0 < j -> j < k + 1 -> lsB (l.getD (j - 1) ByteArray.empty) (l.getD j ByteArray.empty) = true) := HQ3.out hok fun q => absurd q hz
     clear HQ1 HQ2 HQ3;go_wp2_with fail
     go_quiet (exact Calls.quiet_of_same (EQ.out _))
     go_wp2_with fail
     go_roundw
     case rel => exact ⟨k + 1, by omega, by go_num, HN, below_drewN hb2.out _⟩
     case measure => simp [intOf]; omega
  ·have hkl : k = l.length := by omega
   subst hkl;have HF : Hid (namesOk l = decide (l.length <= 4)) := ok_end HI.1 HI.2;by_cases h4 : l.length <= 4
   ·have h4i : (l.length : Int) <= 4 := by omega
    have HG : Hid (namesOk l = true) := by show namesOk l = _; rw [HF.out, decide_eq_true h4]
    go_wp2
    go_ret;exact ⟨by rw [HG.out]; rfl, hbel⟩
   ·have h4i : ¬ (l.length : Int) <= 4 := by omega
    have HG : Hid (namesOk l = false) := by show namesOk l = _; rw [HF.out, decide_eq_false h4]
    go_wp2
    go_ret;exact ⟨by rw [HG.out]; rfl, hbel⟩
theorem ascT_any (v : Value) (l : List ByteArray) (w : World) (hl : l.length <= 1000000000) (h : TxtAt w v l) : Calls Tryz.prog 189 #[v] w fun e w' => e = .returned (.bool (ascG lsB ByteArray.empty l)) /\ zW w w' := by
 obtain ⟨ao, cap, rfl, hc⟩ := h;have HC : Hid (∀ j, j < l.length -> ∃ g, ao = some ⟨g, 0, none⟩ /\ g < w.heap.size /\ w.cell? ⟨g, j, none⟩ = some (Value.string (l.getD j ByteArray.empty))) := hc;clear hc;go_enter Tryz.func189, Tryz.ntmps189
 go_wp2
 go_loopw [3] (fun iv wr => ∃ k : Nat, 1 <= k /\ (k <= l.length ∨ k = 1) /\ iv = zI k /\ Hid (∀ j, 0 < j -> j < k -> lsB (l.getD (j - 1) ByteArray.empty) (l.getD j ByteArray.empty) = true) /\ zW w wr) (fun iv _ => l.length - (intOf iv).toNat)
 case atStart => exact ⟨1, Nat.le_refl _, .inr rfl, rfl, fun j h0 hj => by omega, Below.refl _ _⟩
 case round =>
  obtain ⟨k, hk1, hk, rfl, HI, hbel⟩ := hrel;by_cases hlt : k < l.length
  ·obtain ⟨g, hao, hg, hcx⟩ := HC.out k hlt
   obtain ⟨g2, e2, hg2, hcy⟩ := HC.out (k - 1) (by omega);rw [hao] at e2;simp at e2;subst e2;have c1 : wr.cell? ⟨g, k, none⟩ = some (Value.string (l.getD k ByteArray.empty)) := (hbel.cell (p := ⟨g, k, none⟩) hg).trans hcx;have c2 : wr.cell? ⟨g, k - 1, none⟩ = some (Value.string (l.getD (k - 1) ByteArray.empty)) := (hbel.cell (p := ⟨g, k - 1, none⟩) hg2).trans hcy;have hki : (k : Int) < (l.length : Int) := by omega
   have hk0 : (0 : Int) <= (k : Int) := by omega
   have hb2 : Hid (zW w wr) := hbel;have wk : IntKind.i64.wrap ((k : Int) - 1) = ((k - 1 : Nat) : Int) := by rw [IntKind.wrap_i64]; omega
   have hk1i : ((k - 1 : Nat) : Int) < (l.length : Int) := by omega
   have hk10 : (0 : Int) <= ((k - 1 : Nat) : Int) := by omega
   have HQ2 : Hid (lsB (l.getD (k - 1) ByteArray.empty) (l.getD k ByteArray.empty) = false -> ascG lsB ByteArray.empty l = false) := fun q => asc_no k (by omega) hlt q
   have HQ3 : Hid (lsB (l.getD (k - 1) ByteArray.empty) (l.getD k ByteArray.empty) = true -> ∀ j, 0 < j -> j < k + 1 -> lsB (l.getD (j - 1) ByteArray.empty) (l.getD j ByteArray.empty) = true) := fun q2 j h0 hj => by
     by_cases e : j = k
     ·rw [e]; exact q2
     ·exact HI.out j h0 (by omega)
   generalize hx : l.getD k ByteArray.empty = x at *;generalize hy : l.getD (k - 1) ByteArray.empty = y at *;subst hao;clear hcx hcy hbel HI hx hy
   cases hl : lsB y x with
   | false =>
    have qc : Op.bytesLess y.toList x.toList = false := hl;have HF : Hid (ascG lsB ByteArray.empty l = false) := HQ2.out hl;clear HQ2 HQ3 hl;generalize k - 1 = m at *;go_wp2_with fail
    go_quiet (fail)
    go_wp2_with fail;go_ret;exact ⟨by rw [HF.out]; rfl, below_drewN hb2.out _⟩
   | true =>
    have qc : Op.bytesLess y.toList x.toList = true := hl;have HN : Hid (∀ j, 0 < j -> j < k + 1 -> lsB (l.getD (j - 1) ByteArray.empty) (l.getD j ByteArray.empty) = true) := HQ3.out hl;clear HQ2 HQ3 hl;generalize k - 1 = m at *;go_wp2_with fail
    go_quiet (fail)
    go_wp2_with fail
    go_roundw
    case rel => exact ⟨k + 1, by omega, .inl (by omega), by go_num, HN, below_drewN hb2.out _⟩
    case measure => simp [intOf]; omega
  ·have hki : ¬ (k : Int) < (l.length : Int) := by omega
   have HF : Hid (ascG lsB ByteArray.empty l = true) := asc_yes fun j h0 hj => HI.out j h0 (by omega)
   go_wp2
   go_ret;exact ⟨by rw [HF.out]; rfl, hbel⟩
theorem implTok_any (v : Value) (l : List ByteArray) (w : World) (hl : l.length <= 1000000000) (hsz : ∀ s ∈ l, s.size <= 1000000000000) (h : TxtAt w v l) : Calls Tryz.prog 161 #[v] w fun e w' => e = .returned (.bool (namesOk l)) /\ zW w w' := by
 have HT : Hid (TxtAt w v l) := h;obtain ⟨ao, cap, rfl, hc⟩ := h;have HC : Hid (∀ j, j < l.length -> ∃ g, ao = some ⟨g, 0, none⟩ /\ g < w.heap.size /\ w.cell? ⟨g, j, none⟩ = some (Value.string (l.getD j ByteArray.empty))) := hc;have HS : Hid (∀ s ∈ l, s.size <= 1000000000000) := hsz;clear hc hsz;by_cases h4 : 4 < l.length
 ·have h4i : (4 : Int) < (l.length : Int) := by omega
  have HF : Hid (namesOk l = false) := ok_long h4;go_enter Tryz.func161, Tryz.ntmps161
  go_wp2
  go_ret;exact ⟨by rw [HF.out]; rfl, Below.refl _ _⟩
 have h4i : ¬ (4 : Int) < (l.length : Int) := by omega
 go_enter Tryz.func161, Tryz.ntmps161
 go_wp2
 go_loopw [10] (fun iv wr => ∃ k : Nat, k <= l.length /\ iv = zI k /\ Hid (∀ j, j < k -> nameOk (l.getD j ByteArray.empty) = true) /\ zW w wr) (fun iv _ => l.length - (intOf iv).toNat)
 case atStart => exact ⟨0, Nat.zero_le _, rfl, fun j hj => absurd hj (Nat.not_lt_zero _), Below.refl _ _⟩
 case round =>
  obtain ⟨k, hk, rfl, HI, hbel⟩ := hrel;by_cases hlt : k < l.length
  ·obtain ⟨g, hao, hg, hcx⟩ := HC.out k hlt
   have c1 : wr.cell? ⟨g, k, none⟩ = some (Value.string (l.getD k ByteArray.empty)) := (hbel.cell (p := ⟨g, k, none⟩) hg).trans hcx;have hki : (k : Int) < (l.length : Int) := by omega
   have hk0 : (0 : Int) <= (k : Int) := by omega
   have HQ1 : Hid (nameOk (l.getD k ByteArray.empty) = false -> namesOk l = false) := fun q => ok_bad k hlt q
   have HQ3 : Hid (nameOk (l.getD k ByteArray.empty) = true -> ∀ j, j < k + 1 -> nameOk (l.getD j ByteArray.empty) = true) := fun q j hj => by
     by_cases e : j = k
     ·rw [e]; exact q
     ·exact HI.out j (by omega)
   have hxs : (l.getD k ByteArray.empty).size <= 1000000000000 := HS.out _ (by rw [List.getD_eq_getElem?_getD, List.getElem?_eq_getElem hlt]; exact List.getElem_mem _);have hb2 : Hid (zW w wr) := hbel;generalize hx : l.getD k ByteArray.empty = x at *;have EC := fun w => implName_any x w hxs
   subst hao;clear hcx HI hx hbel
   cases hok : nameOk x with
   | false =>
    have HF : Hid (namesOk l = false) := HQ1.out hok;rw [hok] at EC;clear HQ1 HQ3;go_wp2_with (go_at_call 136; refine (EC _).mono ?_; rintro e w' ⟨rfl, hb1⟩);go_ret;exact ⟨by rw [HF.out]; rfl, hb2.out.trans (hb1.mono hb2.out.size)⟩
   | true =>
    have HN : Hid (∀ j, j < k + 1 -> nameOk (l.getD j ByteArray.empty) = true) := HQ3.out hok;rw [hok] at EC;clear HQ1 HQ3;go_wp2_with (go_at_call 136; refine (EC _).mono ?_; rintro e w' ⟨rfl, hb1⟩)
    go_roundw
    case rel => exact ⟨k + 1, by omega, by go_num, HN, hb2.out.trans (hb1.mono hb2.out.size)⟩
    case measure => simp [intOf]; omega
  ·have hki : ¬ (k : Int) < (l.length : Int) := by omega
   have hkl : k = l.length := by omega
   subst hkl;have HF : Hid (namesOk l = ascG lsB ByteArray.empty l) := ok_asc HI.out (by omega);have EC : Hid (Calls Tryz.prog 189 #[zS ao l.length cap] wr fun e w' => e = .returned (.bool (ascG lsB ByteArray.empty l)) /\ zW wr w') := ascT_any _ l wr hl (HT.below hbel);have hb2 : Hid (zW w wr) := hbel;clear hbel HI;generalize ascG lsB ByteArray.empty l = b at *;go_wp2_with (go_at_call 189; refine (EC.out).mono ?_; rintro e w' ⟨rfl, hb1⟩);go_ret;exact ⟨by rw [HF.out]; rfl, hb2.out.trans (hb1.mono hb2.out.size)⟩
theorem specIok_any (v : Value) (l : List Int) (w : World) (hl : l.length <= 1000000000) (h : IntAt w v l) : Calls Tryz.prog 125 #[v] w fun e w' => e = .returned (.bool (polOk l)) /\ zW w w' := by
 obtain ⟨ao, cap, rfl, hc⟩ := h.each;have HC : Hid (∀ j, j < l.length -> ∃ g, ao = some ⟨g, 0, none⟩ /\ g < w.heap.size /\ w.cell? ⟨g, j, none⟩ = some (Value.int .i64 (l.getD j 0))) := hc;clear hc h;go_enter Tryz.func125, Tryz.ntmps125
 go_wp2
 go_loopw [3] (fun iv wr => ∃ k : Nat, k <= l.length /\ iv = zI k /\ Hid ((∀ j, j < k -> polIn (l.getD j 0) = true) /\ ∀ j, 0 < j -> j < k -> lsI (l.getD (j - 1) 0) (l.getD j 0) = true) /\ zW w wr) (fun iv _ => l.length - (intOf iv).toNat)
 case atStart => exact ⟨0, Nat.zero_le _, rfl, ⟨fun j hj => absurd hj (Nat.not_lt_zero _), fun j _ hj => absurd hj (Nat.not_lt_zero _)⟩, Below.refl _ _⟩
 case round =>
  obtain ⟨k, hk, rfl, HI, hbel⟩ := hrel;by_cases hlt : k < l.length
  ·obtain ⟨g, hao, hg, hcx⟩ := HC.out k hlt
   have c1 : wr.cell? ⟨g, k, none⟩ = some (Value.int .i64 (l.getD k 0)) := (hbel.cell (p := ⟨g, k, none⟩) hg).trans hcx;have hki : (k : Int) < (l.length : Int) := by omega
   have hk0 : (0 : Int) <= (k : Int) := by omega
   have hb2 : Hid (zW w wr) := hbel;have HQ1 : Hid (polIn (l.getD k 0) = false -> polOk l = false) := fun q => ok_bad k hlt q
   have HQ2 : Hid (0 < k -> lsI (l.getD (k - 1) 0) (l.getD k 0) = false -> polOk l = false) := fun h0 q => ok_down k h0 hlt q
   have HQ3 : Hid (polIn (l.getD k 0) = true -> (0 < k -> lsI (l.getD (k - 1) 0) (l.getD k 0) = true) -> (∀ j, j < k + 1 -> polIn (l.getD j 0) = true) /\ ∀ j, 0 < j -> j < k + 1 -> lsI (l.getD (j - 1) 0) (l.getD j 0) = true) := fun q q2 => ⟨fun j hj => by
     by_cases e : j = k
     ·rw [e]; exact q
     ·exact HI.1 j (by omega), fun j h0 hj => by
     by_cases e : j = k
     ·rw [e]; exact q2 (by omega)
     ·exact HI.2 j h0 (by omega)⟩
   have HY : Hid (0 < k -> wr.cell? ⟨g, k - 1, none⟩ = some (Value.int .i64 (l.getD (k - 1) 0))) := fun h0 => by
    obtain ⟨g2, e2, hg2, hcy⟩ := HC.out (k - 1) (by omega);rw [hao] at e2;simp at e2;subst e2;exact (hbel.cell (p := ⟨g, k - 1, none⟩) hg2).trans hcy
   generalize hx : l.getD k 0 = x at *;generalize hy : l.getD (k - 1) 0 = y at *;subst hao;clear hcx hbel HI hx hy
   cases hok : polIn x with
   | false =>
    have HF : Hid (polOk l = false) := HQ1.out hok;have hno : x < 0 ∨ (99 : Int) < x := by unfold polIn at hok; rw [decide_eq_false_iff_not] at hok; omega
    have EQ : Hid (∀ W, Calls Tryz.prog 30 #[zI x, zI 0, zI 99] W fun e w' => e = .returned (.bool false) /\ w' = W) := fun W => (in_no _ _ _ _ hno).mono (by rintro e w' ⟨rfl, rfl⟩; exact ⟨rfl, rfl⟩)
    clear HQ1 HQ2 HQ3;go_wp2_with fail
    go_quiet (exact Calls.quiet_of_same (EQ.out _))
    go_wp2_with fail;go_ret;exact ⟨by rw [HF.out]; rfl, below_drewN hb2.out _⟩
   | true =>
    have hyes : 0 <= x /\ x <= 99 := by unfold polIn at hok; rwa [decide_eq_true_eq] at hok
    have EQ : Hid (∀ W, Calls Tryz.prog 30 #[zI x, zI 0, zI 99] W fun e w' => e = .returned (.bool true) /\ w' = W) := fun W => (in_yes _ _ _ _ hyes.1 hyes.2).mono (by rintro e w' ⟨rfl, rfl⟩; exact ⟨rfl, rfl⟩)
    by_cases hz : 0 < k
    ·have hzi : (0 : Int) < (k : Int) := by omega
     have c2 := HY.out hz;have wk : IntKind.i64.wrap ((k : Int) - 1) = ((k - 1 : Nat) : Int) := by rw [IntKind.wrap_i64]; omega
     have hk1i : ((k - 1 : Nat) : Int) < (l.length : Int) := by omega
     have hk10 : (0 : Int) <= ((k - 1 : Nat) : Int) := by omega
     cases hl : lsI y x with
     | false =>
      have qc : x <= y := by have := hl; unfold lsI at this; rw [decide_eq_false_iff_not] at this; omega
      have qn : ¬ y < x := by omega
      have HF : Hid (polOk l = false) := HQ2.out hz hl;clear HQ1 HQ2 HQ3 hl;generalize k - 1 = m at *;go_wp2_with fail
      go_quiet (exact Calls.quiet_of_same (EQ.out _))
      go_wp2_with fail;go_ret;exact ⟨by rw [HF.out]; rfl, below_drewN hb2.out _⟩
     | true =>
      have qc : y < x := by have := hl; unfold lsI at this; rwa [decide_eq_true_eq] at this
      have qn : ¬ x <= y := by omega
      have HN : Hid ((∀ j, j < k + 1 -> polIn (l.getD j 0) = true) /\ ∀ j, 0 < j -> j < k + 1 -> lsI (l.getD (j - 1) 0) (l.getD j 0) = true) := HQ3.out hok fun _ => hl
      clear HQ1 HQ2 HQ3 hl;generalize k - 1 = m at *;go_wp2_with fail
      go_quiet (exact Calls.quiet_of_same (EQ.out _))
      go_wp2_with fail
      go_roundw
      case rel => exact ⟨k + 1, by omega, by go_num, HN, below_drewN hb2.out _⟩
      case measure => simp [intOf]; omega
    ·have hzi : ¬ (0 : Int) < (k : Int) := by omega
     have HN : Hid ((∀ j, j < k + 1 -> polIn (l.getD j 0) = true) /\ ∀ j, 0 < j -> j < k + 1 -> lsI (l.getD (j - 1) 0) (l.getD j 0) = true) := HQ3.out hok fun q => absurd q hz
     clear HQ1 HQ2 HQ3;go_wp2_with fail
     go_quiet (exact Calls.quiet_of_same (EQ.out _))
     go_wp2_with fail
     go_roundw
     case rel => exact ⟨k + 1, by omega, by go_num, HN, below_drewN hb2.out _⟩
     case measure => simp [intOf]; omega
  ·have hkl : k = l.length := by omega
   subst hkl;have HF : Hid (polOk l = decide (l.length <= 4)) := ok_end HI.1 HI.2;by_cases h4 : l.length <= 4
   ·have h4i : (l.length : Int) <= 4 := by omega
    have HG : Hid (polOk l = true) := by show polOk l = _; rw [HF.out, decide_eq_true h4]
    go_wp2
    go_ret;exact ⟨by rw [HG.out]; rfl, hbel⟩
   ·have h4i : ¬ (l.length : Int) <= 4 := by omega
    have HG : Hid (polOk l = false) := by show polOk l = _; rw [HF.out, decide_eq_false h4]
    go_wp2
    go_ret;exact ⟨by rw [HG.out]; rfl, hbel⟩
theorem ascI_any (v : Value) (l : List Int) (w : World) (hl : l.length <= 1000000000) (h : IntAt w v l) : Calls Tryz.prog 91 #[v] w fun e w' => e = .returned (.bool (ascG lsI 0 l)) /\ zW w w' := by
 obtain ⟨ao, cap, rfl, hc⟩ := h.each;have HC : Hid (∀ j, j < l.length -> ∃ g, ao = some ⟨g, 0, none⟩ /\ g < w.heap.size /\ w.cell? ⟨g, j, none⟩ = some (Value.int .i64 (l.getD j 0))) := hc;clear hc h;go_enter Tryz.func91, Tryz.ntmps91
 go_wp2
 go_loopw [3] (fun iv wr => ∃ k : Nat, 1 <= k /\ (k <= l.length ∨ k = 1) /\ iv = zI k /\ Hid (∀ j, 0 < j -> j < k -> lsI (l.getD (j - 1) 0) (l.getD j 0) = true) /\ zW w wr) (fun iv _ => l.length - (intOf iv).toNat)
 case atStart => exact ⟨1, Nat.le_refl _, .inr rfl, rfl, fun j h0 hj => by omega, Below.refl _ _⟩
 case round =>
  obtain ⟨k, hk1, hk, rfl, HI, hbel⟩ := hrel;by_cases hlt : k < l.length
  ·obtain ⟨g, hao, hg, hcx⟩ := HC.out k hlt
   obtain ⟨g2, e2, hg2, hcy⟩ := HC.out (k - 1) (by omega);rw [hao] at e2;simp at e2;subst e2;have c1 : wr.cell? ⟨g, k, none⟩ = some (Value.int .i64 (l.getD k 0)) := (hbel.cell (p := ⟨g, k, none⟩) hg).trans hcx;have c2 : wr.cell? ⟨g, k - 1, none⟩ = some (Value.int .i64 (l.getD (k - 1) 0)) := (hbel.cell (p := ⟨g, k - 1, none⟩) hg2).trans hcy;have hki : (k : Int) < (l.length : Int) := by omega
   have hk0 : (0 : Int) <= (k : Int) := by omega
   have hb2 : Hid (zW w wr) := hbel;have wk : IntKind.i64.wrap ((k : Int) - 1) = ((k - 1 : Nat) : Int) := by rw [IntKind.wrap_i64]; omega
   have hk1i : ((k - 1 : Nat) : Int) < (l.length : Int) := by omega
   have hk10 : (0 : Int) <= ((k - 1 : Nat) : Int) := by omega
   have HQ2 : Hid (lsI (l.getD (k - 1) 0) (l.getD k 0) = false -> ascG lsI 0 l = false) := fun q => asc_no k (by omega) hlt q
   have HQ3 : Hid (lsI (l.getD (k - 1) 0) (l.getD k 0) = true -> ∀ j, 0 < j -> j < k + 1 -> lsI (l.getD (j - 1) 0) (l.getD j 0) = true) := fun q2 j h0 hj => by
     by_cases e : j = k
     ·rw [e]; exact q2
     ·exact HI.out j h0 (by omega)
   generalize hx : l.getD k 0 = x at *;generalize hy : l.getD (k - 1) 0 = y at *;subst hao;clear hcx hcy hbel HI hx hy
   cases hl : lsI y x with
   | false =>
    have qc : x <= y := by have := hl; unfold lsI at this; rw [decide_eq_false_iff_not] at this; omega
    have qn : ¬ y < x := by omega
    have HF : Hid (ascG lsI 0 l = false) := HQ2.out hl;clear HQ2 HQ3 hl;generalize k - 1 = m at *;go_wp2_with fail
    go_quiet (fail)
    go_wp2_with fail;go_ret;exact ⟨by rw [HF.out]; rfl, below_drewN hb2.out _⟩
   | true =>
    have qc : y < x := by have := hl; unfold lsI at this; rwa [decide_eq_true_eq] at this
    have qn : ¬ x <= y := by omega
    have HN : Hid (∀ j, 0 < j -> j < k + 1 -> lsI (l.getD (j - 1) 0) (l.getD j 0) = true) := HQ3.out hl;clear HQ2 HQ3 hl;generalize k - 1 = m at *;go_wp2_with fail
    go_quiet (fail)
    go_wp2_with fail
    go_roundw
    case rel => exact ⟨k + 1, by omega, .inl (by omega), by go_num, HN, below_drewN hb2.out _⟩
    case measure => simp [intOf]; omega
  ·have hki : ¬ (k : Int) < (l.length : Int) := by omega
   have HF : Hid (ascG lsI 0 l = true) := asc_yes fun j h0 hj => HI.out j h0 (by omega)
   go_wp2
   go_ret;exact ⟨by rw [HF.out]; rfl, hbel⟩
theorem implIok_any (v : Value) (l : List Int) (w : World) (hl : l.length <= 1000000000) (h : IntAt w v l) : Calls Tryz.prog 160 #[v] w fun e w' => e = .returned (.bool (polOk l)) /\ zW w w' := by
 have HT : Hid (IntAt w v l) := h;obtain ⟨ao, cap, rfl, hc⟩ := h.each;have HC : Hid (∀ j, j < l.length -> ∃ g, ao = some ⟨g, 0, none⟩ /\ g < w.heap.size /\ w.cell? ⟨g, j, none⟩ = some (Value.int .i64 (l.getD j 0))) := hc;clear hc h;by_cases h4 : 4 < l.length
 ·have h4i : (4 : Int) < (l.length : Int) := by omega
  have HF : Hid (polOk l = false) := ok_long h4;go_enter Tryz.func160, Tryz.ntmps160
  go_wp2
  go_ret;exact ⟨by rw [HF.out]; rfl, Below.refl _ _⟩
 have h4i : ¬ (4 : Int) < (l.length : Int) := by omega
 go_enter Tryz.func160, Tryz.ntmps160
 go_wp2
 go_loopw [10] (fun iv wr => ∃ k : Nat, k <= l.length /\ iv = zI k /\ Hid (∀ j, j < k -> polIn (l.getD j 0) = true) /\ zW w wr) (fun iv _ => l.length - (intOf iv).toNat)
 case atStart => exact ⟨0, Nat.zero_le _, rfl, fun j hj => absurd hj (Nat.not_lt_zero _), Below.refl _ _⟩
 case round =>
  obtain ⟨k, hk, rfl, HI, hbel⟩ := hrel;by_cases hlt : k < l.length
  ·obtain ⟨g, hao, hg, hcx⟩ := HC.out k hlt
   have c1 : wr.cell? ⟨g, k, none⟩ = some (Value.int .i64 (l.getD k 0)) := (hbel.cell (p := ⟨g, k, none⟩) hg).trans hcx;have hki : (k : Int) < (l.length : Int) := by omega
   have hk0 : (0 : Int) <= (k : Int) := by omega
   have HQ1 : Hid (polIn (l.getD k 0) = false -> polOk l = false) := fun q => ok_bad k hlt q
   have HQ3 : Hid (polIn (l.getD k 0) = true -> ∀ j, j < k + 1 -> polIn (l.getD j 0) = true) := fun q j hj => by
     by_cases e : j = k
     ·rw [e]; exact q
     ·exact HI.out j (by omega)
   generalize hx : l.getD k 0 = x at *;subst hao;clear hcx HI hx
   cases hok : polIn x with
   | false =>
    have HF : Hid (polOk l = false) := HQ1.out hok;have hno : x < 0 ∨ (99 : Int) < x := by unfold polIn at hok; rw [decide_eq_false_iff_not] at hok; omega
    clear HQ1 HQ3 hok;by_cases hneg : x < 0
    ·go_wp2
     go_ret;exact ⟨by rw [HF.out]; rfl, hbel⟩
    ·have hgt : (99 : Int) < x := by omega
     go_wp2
     go_ret;exact ⟨by rw [HF.out]; rfl, hbel⟩
   | true =>
    have HN : Hid (∀ j, j < k + 1 -> polIn (l.getD j 0) = true) := HQ3.out hok;have hyes : 0 <= x /\ x <= 99 := by unfold polIn at hok; rwa [decide_eq_true_eq] at hok
    have hneg : ¬ x < 0 := by omega
    have hgt : ¬ (99 : Int) < x := by omega
    clear HQ1 HQ3 hok
    go_wp2
    go_roundw
    case rel => exact ⟨k + 1, by omega, by go_num, HN, hbel⟩
    case measure => simp [intOf]; omega
  ·have hki : ¬ (k : Int) < (l.length : Int) := by omega
   have hkl : k = l.length := by omega
   subst hkl;have HF : Hid (polOk l = ascG lsI 0 l) := ok_asc HI.out (by omega);have EC : Hid (Calls Tryz.prog 91 #[zS ao l.length cap] wr fun e w' => e = .returned (.bool (ascG lsI 0 l)) /\ zW wr w') := ascI_any _ l wr hl (HT.below hbel);have hb2 : Hid (zW w wr) := hbel;clear hbel HI;generalize ascG lsI 0 l = b at *;go_wp2_with (go_at_call 91; refine (EC.out).mono ?_; rintro e w' ⟨rfl, hb1⟩);go_ret;exact ⟨by rw [HF.out]; rfl, hb2.out.trans (hb1.mono hb2.out.size)⟩
end Go.Proofs.YtabfamhaihnccaaGreat
namespace Go.Proofs.YtabfamhaihnccaaGreat
open Go.RowKit
def inB (n lo hi : Int) : Bool := decide (lo <= n /\ n <= hi)
def certOk (c : Ct) : Bool := inB c.serial 0 9999 && (inB c.frm 0 9999 && (inB c.upto 0 9999 && (nameOk c.issuer && (nameOk c.subject && (decide (c.key.size = 15) && (inB c.pathLen 0 99 && (inB c.usage 0 7 && (polOk c.pol && (namesOk c.per && (namesOk c.den && decide (c.sig.size = 15)))))))))))
theorem wt_parts {c : Ct} {b : Nat} (h : wtC c <= b) : c.issuer.size <= b /\ c.subject.size <= b /\ c.key.size <= b /\ c.pol.length <= b /\ c.per.length <= b /\ c.den.length <= b /\ c.sig.size <= b /\ (∀ s ∈ c.per, s.size <= b) /\ ∀ s ∈ c.den, s.size <= b := by
 unfold wtC at h;have h1 := tot_len c.per;have h2 := tot_len c.den;exact ⟨by omega, by omega, by omega, by omega, by omega, by omega, by omega, fun s hs => by have := tot_mem c.per s hs; omega, fun s hs => by have := tot_mem c.den s hs; omega⟩
theorem in_any (n lo hi : Int) (w : World) : Calls Tryz.prog 30 #[zI n, zI lo, zI hi] w fun e w' => e = .returned (.bool (inB n lo hi)) /\ zW w w' := by
 by_cases h : lo <= n /\ n <= hi
 ·refine (in_yes _ _ _ _ h.1 h.2).mono ?_
  rintro e w' ⟨rfl, rfl⟩;exact ⟨by simp [inB, h], Below.refl _ _⟩
 ·refine (in_no _ _ _ _ (by omega)).mono ?_
  rintro e w' ⟨rfl, rfl⟩;exact ⟨by unfold inB; rw [decide_eq_false h], Below.refl _ _⟩
theorem num_any (n : Int) (w : World) : Calls Tryz.prog 31 #[zI n] w fun e w' => e = .returned (.bool (inB n 0 9999)) /\ zW w w' := by
 have E := in_any n 0 9999 w;generalize inB n 0 9999 = b at *;go_enter Tryz.func31, Tryz.ntmps31;go_wp2_with fail;refine E.mono ?_;rintro e w' ⟨rfl, hb⟩;go_wp2_with fail;go_ret;exact ⟨rfl, hb⟩
theorem specCertOk_any (c : Ct) (v : Value) (w : World) (hz : wtC c <= 1000000000) (ha : CtAt w v c) :
  Calls Tryz.prog 118 #[v] w fun e w' => e = .returned (.bool (certOk c)) /\ zW w w' := by
 obtain ⟨pv, ev, dv, rfl, h1, h2, h3⟩ := ha;obtain ⟨z1, z2, z3, z4, z5, z6, z7, z8, z9⟩ := wt_parts hz;clear hz;obtain ⟨pa, pc, hpa⟩ : ∃ ao cap, pv = zS ao c.pol.length cap := by obtain ⟨ao, cap, h, _⟩ := h1; exact ⟨ao, cap, h⟩
 obtain ⟨ea, ec, hea⟩ : ∃ ao cap, ev = zS ao c.per.length cap := by obtain ⟨ao, cap, h, _⟩ := h2; exact ⟨ao, cap, h⟩
 obtain ⟨da, dc, hda⟩ : ∃ ao cap, dv = zS ao c.den.length cap := by obtain ⟨ao, cap, h, _⟩ := h3; exact ⟨ao, cap, h⟩
 obtain ⟨lp, hlp⟩ := zE (c.pol.length);obtain ⟨le, hle⟩ := zE (c.per.length);obtain ⟨ld, hld⟩ := zE (c.den.length);rw [hlp] at hpa;rw [hle] at hea;rw [hld] at hda;subst hpa hea hda;obtain ⟨B1, hB1⟩ := zE (inB c.serial 0 9999);have E1 : Hid (∀ W, zW w W -> Calls Tryz.prog 31 #[zI c.serial] W fun e w' => e = .returned (.bool B1) /\ zW W w') := fun W hb => by rw [<- hB1]; exact num_any _ W
 obtain ⟨B2, hB2⟩ := zE (inB c.frm 0 9999);have E2 : Hid (∀ W, zW w W -> Calls Tryz.prog 31 #[zI c.frm] W fun e w' => e = .returned (.bool B2) /\ zW W w') := fun W hb => by rw [<- hB2]; exact num_any _ W
 obtain ⟨B3, hB3⟩ := zE (inB c.upto 0 9999);have E3 : Hid (∀ W, zW w W -> Calls Tryz.prog 31 #[zI c.upto] W fun e w' => e = .returned (.bool B3) /\ zW W w') := fun W hb => by rw [<- hB3]; exact num_any _ W
 obtain ⟨B4, hB4⟩ := zE (nameOk c.issuer);have E4 : Hid (∀ W, zW w W -> Calls Tryz.prog 124 #[zG c.issuer] W fun e w' => e = .returned (.bool B4) /\ zW W w') := fun W hb => by rw [<- hB4]; exact (specName_any c.issuer W (by omega)).mono (by rintro e w' ⟨rfl, rfl⟩; exact ⟨rfl, Below.refl _ _⟩)
 obtain ⟨B5, hB5⟩ := zE (nameOk c.subject);have E5 : Hid (∀ W, zW w W -> Calls Tryz.prog 124 #[zG c.subject] W fun e w' => e = .returned (.bool B5) /\ zW W w') := fun W hb => by rw [<- hB5]; exact (specName_any c.subject W (by omega)).mono (by rintro e w' ⟨rfl, rfl⟩; exact ⟨rfl, Below.refl _ _⟩)
 obtain ⟨B7, hB7⟩ := zE (inB c.pathLen 0 99);have E7 : Hid (∀ W, zW w W -> Calls Tryz.prog 30 #[zI c.pathLen, zI 0, zI 99] W fun e w' => e = .returned (.bool B7) /\ zW W w') := fun W hb => by rw [<- hB7]; exact in_any _ _ _ W
 obtain ⟨B8, hB8⟩ := zE (inB c.usage 0 7);have E8 : Hid (∀ W, zW w W -> Calls Tryz.prog 30 #[zI c.usage, zI 0, zI 7] W fun e w' => e = .returned (.bool B8) /\ zW W w') := fun W hb => by rw [<- hB8]; exact in_any _ _ _ W
 obtain ⟨B9, hB9⟩ := zE (polOk c.pol);have E9 : Hid (∀ W, zW w W -> Calls Tryz.prog 125 #[zS pa lp pc] W fun e w' => e = .returned (.bool B9) /\ zW W w') := fun W hb => by rw [<- hB9]; exact specIok_any _ c.pol W (by omega) (h1.below hb)
 obtain ⟨B10, hB10⟩ := zE (namesOk c.per);have E10 : Hid (∀ W, zW w W -> Calls Tryz.prog 151 #[zS ea le ec] W fun e w' => e = .returned (.bool B10) /\ zW W w') := fun W hb => by rw [<- hB10]; exact specTok_any _ c.per W (by omega) (fun s hs => by have := z8 s hs; omega) (h2.below hb)
 obtain ⟨B11, hB11⟩ := zE (namesOk c.den);have E11 : Hid (∀ W, zW w W -> Calls Tryz.prog 151 #[zS da ld dc] W fun e w' => e = .returned (.bool B11) /\ zW W w') := fun W hb => by rw [<- hB11]; exact specTok_any _ c.den W (by omega) (fun s hs => by have := z9 s hs; omega) (h3.below hb)
 have HC : Hid (certOk c = (B1 && (B2 && (B3 && (B4 && (B5 && (decide (c.key.size = 15) && (B7 && (B8 && (B9 && (B10 && (B11 && decide (c.sig.size = 15))))))))))))) := by show certOk c = _; unfold certOk; rw [hB1, hB2, hB3, hB4, hB5, hB7, hB8, hB9, hB10, hB11]
 clear hB1 hB2 hB3 hB4 hB5 hB7 hB8 hB9 hB10 hB11 h1 h2 h3 hlp hle hld z8 z9;unfold ctV;go_enter Tryz.func118, Tryz.ntmps118;go_wp2_with fail;obtain ⟨V, hV⟩ : ∃ V, V = w.alloc (Obj.cells (zCt c (zS pa lp pc) (zS ea le ec) (zS da ld dc)) 52) := ⟨_, rfl⟩;rw [<- hV];have G : Hid (Blk V w.heap.size 52 (zCt c (zS pa lp pc) (zS ea le ec) (zS da ld dc)) /\ zW w V /\ w.heap.size < V.heap.size) := by rw [hV]; exact ⟨Blk.new w _ _, (Below.refl _ _).alloc (Nat.le_refl _) _, (Blk.new w _ _).lt⟩
 clear hV;refine (E1.out V G.2.1).mono ?_;rintro e V1 ⟨rfl, hb⟩;have G1 := zH (zJ (G.1.below hb G.2.2) (zJ (G.2.1.trans (hb.mono G.2.1.size)) (Nat.lt_of_lt_of_le G.2.2 hb.size)));clear hb G E1;have c_frm := fun j => G1.1.cell j
 cases B1 with
 | false =>
  go_wp2_with fail;go_ret;exact ⟨by rw [HC.out]; simp, G1.2.1⟩
 | true =>
  go_wp2_with fail;clear c_frm;refine (E2.out V1 G1.2.1).mono ?_;rintro e V2 ⟨rfl, hb⟩;have G2 := zH (zJ (G1.1.below hb G1.2.2) (zJ (G1.2.1.trans (hb.mono G1.2.1.size)) (Nat.lt_of_lt_of_le G1.2.2 hb.size)));clear hb G1 E2;have c_upto := fun j => G2.1.cell j
  cases B2 with
  | false =>
   go_wp2_with fail;go_ret;exact ⟨by rw [HC.out]; simp, G2.2.1⟩
  | true =>
   go_wp2_with fail;clear c_upto;refine (E3.out V2 G2.2.1).mono ?_;rintro e V3 ⟨rfl, hb⟩;have G3 := zH (zJ (G2.1.below hb G2.2.2) (zJ (G2.2.1.trans (hb.mono G2.2.1.size)) (Nat.lt_of_lt_of_le G2.2.2 hb.size)));clear hb G2 E3;have c_issuer := fun j => G3.1.cell j
   cases B3 with
   | false =>
    go_wp2_with fail;go_ret;exact ⟨by rw [HC.out]; simp, G3.2.1⟩
   | true =>
    go_wp2_with fail;clear c_issuer;refine (E4.out V3 G3.2.1).mono ?_;rintro e V4 ⟨rfl, hb⟩;have G4 := zH (zJ (G3.1.below hb G3.2.2) (zJ (G3.2.1.trans (hb.mono G3.2.1.size)) (Nat.lt_of_lt_of_le G3.2.2 hb.size)));clear hb G3 E4;have c_subject := fun j => G4.1.cell j
    cases B4 with
    | false =>
     go_wp2_with fail;go_ret;exact ⟨by rw [HC.out]; simp, G4.2.1⟩
    | true =>
     go_wp2_with fail;clear c_subject;refine (E5.out V4 G4.2.1).mono ?_;rintro e V5 ⟨rfl, hb⟩;have G5 := zH (zJ (G4.1.below hb G4.2.2) (zJ (G4.2.1.trans (hb.mono G4.2.1.size)) (Nat.lt_of_lt_of_le G4.2.2 hb.size)));clear hb G4 E5;have c_key := fun j => G5.1.cell j
     cases B5 with
     | false =>
      go_wp2_with fail;go_ret;exact ⟨by rw [HC.out]; simp, G5.2.1⟩
     | true =>
      by_cases s6 : c.key.size = 15;rotate_left
      ·have si : ¬ (c.key.size : Int) = 15 := by omega
       have HN : Hid (decide (c.key.size = 15) = false) := decide_eq_false s6;clear s6;go_wp2_with fail;go_ret;exact ⟨by rw [HC.out, HN.out]; simp, G5.2.1⟩
      have si6 : (c.key.size : Int) = 15 := by omega
      go_wp2_with fail;skip;refine (E7.out V5 G5.2.1).mono ?_;rintro e V7 ⟨rfl, hb⟩;have G7 := zH (zJ (G5.1.below hb G5.2.2) (zJ (G5.2.1.trans (hb.mono G5.2.1.size)) (Nat.lt_of_lt_of_le G5.2.2 hb.size)));clear hb G5 E7;have c_usage := fun j => G7.1.cell j
      cases B7 with
      | false =>
       go_wp2_with fail;go_ret;exact ⟨by rw [HC.out]; simp, G7.2.1⟩
      | true =>
       go_wp2_with fail;clear c_usage;refine (E8.out V7 G7.2.1).mono ?_;rintro e V8 ⟨rfl, hb⟩;have G8 := zH (zJ (G7.1.below hb G7.2.2) (zJ (G7.2.1.trans (hb.mono G7.2.1.size)) (Nat.lt_of_lt_of_le G7.2.2 hb.size)));clear hb G7 E8;have c_pol := fun j => G8.1.cell j
       cases B8 with
       | false =>
        go_wp2_with fail;go_ret;exact ⟨by rw [HC.out]; simp, G8.2.1⟩
       | true =>
        go_wp2_with fail;clear c_pol;refine (E9.out V8 G8.2.1).mono ?_;rintro e V9 ⟨rfl, hb⟩;have G9 := zH (zJ (G8.1.below hb G8.2.2) (zJ (G8.2.1.trans (hb.mono G8.2.1.size)) (Nat.lt_of_lt_of_le G8.2.2 hb.size)));clear hb G8 E9;have c_per := fun j => G9.1.cell j
        cases B9 with
        | false =>
         go_wp2_with fail;go_ret;exact ⟨by rw [HC.out]; simp, G9.2.1⟩
        | true =>
         go_wp2_with fail;clear c_per;refine (E10.out V9 G9.2.1).mono ?_;rintro e V10 ⟨rfl, hb⟩;have G10 := zH (zJ (G9.1.below hb G9.2.2) (zJ (G9.2.1.trans (hb.mono G9.2.1.size)) (Nat.lt_of_lt_of_le G9.2.2 hb.size)));clear hb G9 E10;have c_den := fun j => G10.1.cell j
         cases B10 with
         | false =>
          go_wp2_with fail;go_ret;exact ⟨by rw [HC.out]; simp, G10.2.1⟩
         | true =>
          go_wp2_with fail;clear c_den;refine (E11.out V10 G10.2.1).mono ?_;rintro e V11 ⟨rfl, hb⟩;have G11 := zH (zJ (G10.1.below hb G10.2.2) (zJ (G10.2.1.trans (hb.mono G10.2.1.size)) (Nat.lt_of_lt_of_le G10.2.2 hb.size)));clear hb G10 E11;have c_sig := fun j => G11.1.cell j
          cases B11 with
          | false =>
           go_wp2_with fail;go_ret;exact ⟨by rw [HC.out]; simp, G11.2.1⟩
          | true =>
           by_cases s12 : c.sig.size = 15;rotate_left
           ·have si : ¬ (c.sig.size : Int) = 15 := by omega
            have HN : Hid (decide (c.sig.size = 15) = false) := decide_eq_false s12;clear s12;go_wp2_with fail;go_ret;exact ⟨by rw [HC.out, HN.out]; simp [si], G11.2.1⟩
           have si12 : (c.sig.size : Int) = 15 := by omega
           go_wp2_with fail;go_ret;exact ⟨by rw [HC.out, decide_eq_true s6, decide_eq_true s12]; rfl, G11.2.1⟩
def revIn (b : Int) (p : Int × Int) : Bool := inB p.1 0 9999 && (inB p.2 1 10 && !(decide (p.2 = 8) && decide (b = 0)))
def serials (l : List (Int × Int)) : List Int := l.map fun p => p.1
theorem serials_len (l : List (Int × Int)) : (serials l).length = l.length := by simp [serials]
theorem serials_getD (l : List (Int × Int)) (j : Nat) : (serials l).getD j 0 = (l.getD j (0, 0)).1 := by
 simp only [serials, List.getD, List.getElem?_map]
 cases l[j]? <;> rfl
def headOk (c : Cl) : Bool := nameOk c.issuer && (inB c.num 1 9999 && (inB c.bas 0 (c.num - 1) && (inB c.ths 0 9999 && inB c.nxt 0 9999)))
def revsOk (b : Int) (l : List (Int × Int)) : Bool := decide (l.length <= 8) && (l.all (revIn b) && ascG lsI 0 (serials l))
def crlOk (c : Cl) : Bool := headOk c && (revsOk c.bas c.revs && decide (c.sig.size = 15))
theorem revs_bad {b : Int} {l : List (Int × Int)} {k : Nat} (hk : k < l.length) (h : revIn b (l.getD k (0, 0)) = false) : revsOk b l = false := by
 unfold revsOk; rw [all_no k hk h]; simp
theorem revs_down {b : Int} {l : List (Int × Int)} {k : Nat} (h0 : 0 < k) (hk : k < l.length) (h : ¬ (l.getD (k - 1) (0, 0)).1 < (l.getD k (0, 0)).1) : revsOk b l = false := by
 unfold revsOk;rw [asc_no (l := serials l) k h0 (by rw [serials_len]; exact hk) (by rw [serials_getD, serials_getD]; unfold lsI; exact decide_eq_false h)];simp
theorem revs_long {b : Int} {l : List (Int × Int)} (h : ¬ l.length <= 8) : revsOk b l = false := by unfold revsOk; rw [decide_eq_false h]; rfl
theorem revs_yes {b : Int} {l : List (Int × Int)} (h : l.length <= 8) (h1 : ∀ i, i < l.length -> revIn b (l.getD i (0, 0)) = true) (h2 : ∀ i, 0 < i -> i < l.length -> (l.getD (i - 1) (0, 0)).1 < (l.getD i (0, 0)).1) : revsOk b l = true := by
 unfold revsOk;rw [decide_eq_true h, all_yes h1, asc_yes (l := serials l) (fun i h0 hi => by rw [serials_getD, serials_getD]; unfold lsI; exact decide_eq_true (h2 i h0 (by rw [serials_len] at hi; exact hi)))];rfl
theorem inW_same (n lo hi : Int) (w : World) : Calls Tryz.prog 30 #[zI n, zI lo, zI hi] w fun e w' => e = .returned (.bool (inB n lo hi)) /\ w' = w := by
 by_cases h : lo <= n /\ n <= hi
 ·refine (in_yes _ _ _ _ h.1 h.2).mono ?_
  rintro e w' ⟨rfl, rfl⟩;exact ⟨by simp [inB, h], rfl⟩
 ·refine (in_no _ _ _ _ (by omega)).mono ?_
  rintro e w' ⟨rfl, rfl⟩;exact ⟨by unfold inB; rw [decide_eq_false h], rfl⟩
theorem num_same (n : Int) (w : World) : Calls Tryz.prog 31 #[zI n] w fun e w' => e = .returned (.bool (inB n 0 9999)) /\ w' = w := by
 have E : Calls Tryz.prog 30 #[zI n, zI 0, zI 9999] w fun e w' => e = .returned (.bool (inB n 0 9999)) /\ w' = w := inW_same n 0 9999 w
 generalize inB n 0 9999 = b at *;go_enter Tryz.func31, Tryz.ntmps31;go_wp2_with fail;refine E.mono ?_;rintro e w' ⟨rfl, rfl⟩;go_wp2_with fail;go_ret;exact ⟨rfl, rfl⟩
theorem blk_drewN {w : World} {b : Nat} {t : TypeId} {vs : Array Value} (h : Blk w b t vs) (n : Nat) : Blk (w.drewN n) b t vs := h
theorem specCrlOk_any (c : Cl) (v : Value) (w : World) (hz : wtL c <= 1000000000) (ha : ClAt w v c) :
  Calls Tryz.prog 122 #[v] w fun e w' => e = .returned (.bool (crlOk c)) /\ zW w w' := by
 obtain ⟨pv, rfl, h1⟩ := ha;obtain ⟨z1, z2, z3⟩ := wtL_parts hz;clear hz;obtain ⟨pa, pc, hpa, hrev⟩ := h1;obtain ⟨lp, hlp⟩ := zE (c.revs.length);rw [hlp] at hpa z2;subst hpa;have HRV : Hid (c.revs.length = lp /\ ∀ j, j < c.revs.length -> ∃ g, pa = some ⟨g, 0, none⟩ /\ g < w.heap.size /\ w.cell? ⟨g, j * 2, none⟩ = some (zI (c.revs.getD j (0, 0)).1) /\ w.cell? ⟨g, j * 2 + 1, none⟩ = some (zI (c.revs.getD j (0, 0)).2)) := ⟨hlp, hrev⟩;clear hrev hlp;obtain ⟨NM, hNM⟩ := zE (c.num - 1);obtain ⟨B1, hB1⟩ := zE (nameOk c.issuer);have E1 : Hid (∀ W, Calls Tryz.prog 124 #[zG c.issuer] W fun e w' => e = .returned (.bool B1) /\ w' = W) := fun W => by rw [<- hB1]; exact (specName_any c.issuer W (by omega)).mono (by rintro e w' ⟨rfl, rfl⟩; exact ⟨rfl, rfl⟩)
 obtain ⟨B2, hB2⟩ := zE (inB c.num 1 9999);have E2 : Hid (∀ W, Calls Tryz.prog 30 #[zI c.num, zI 1, zI 9999] W fun e w' => e = .returned (.bool B2) /\ w' = W) := fun W => by rw [<- hB2]; exact inW_same _ _ _ W
 obtain ⟨B3, hB3⟩ := zE (inB c.bas 0 NM);have E3 : Hid (∀ W, Calls Tryz.prog 30 #[zI c.bas, zI 0, zI NM] W fun e w' => e = .returned (.bool B3) /\ w' = W) := fun W => by rw [<- hB3]; exact inW_same _ _ _ W
 obtain ⟨B4, hB4⟩ := zE (inB c.ths 0 9999);have E4 : Hid (∀ W, Calls Tryz.prog 31 #[zI c.ths] W fun e w' => e = .returned (.bool B4) /\ w' = W) := fun W => by rw [<- hB4]; exact num_same _ W
 obtain ⟨B5, hB5⟩ := zE (inB c.nxt 0 9999);have E5 : Hid (∀ W, Calls Tryz.prog 31 #[zI c.nxt] W fun e w' => e = .returned (.bool B5) /\ w' = W) := fun W => by rw [<- hB5]; exact num_same _ W
 have HC : Hid (crlOk c = ((B1 && (B2 && (B3 && (B4 && B5)))) && (revsOk c.bas c.revs && decide (c.sig.size = 15)))) := by show crlOk c = _; unfold crlOk headOk; rw [hNM, hB1, hB2, hB3, hB4, hB5]
 have HWN : Hid (B2 = true -> IntKind.i64.wrap (c.num - 1) = NM) := fun h => by rw [h] at hB2; unfold inB at hB2; rw [decide_eq_true_eq] at hB2; rw [IntKind.wrap_i64]; omega
 clear hB1 hB2 hB3 hB4 hB5 hNM;unfold clV;go_enter Tryz.func122, Tryz.ntmps122;go_wp2_with fail;obtain ⟨V, hV⟩ : ∃ V, V = w.alloc (Obj.cells (zCl c (zS pa lp pc)) 65) := ⟨_, rfl⟩;rw [<- hV];have G : Hid (zW w V /\ Blk V w.heap.size 65 (zCl c (zS pa lp pc))) := by rw [hV]; exact ⟨(Below.refl _ _).alloc (Nat.le_refl _) _, Blk.new w _ _⟩
 clear hV;obtain ⟨c0, c1, c2, c3, c4, c5, c6⟩ := zc7 G.2;refine (E1.out V).mono ?_;rintro e V1 ⟨rfl, hVe⟩;rw [hVe];clear hVe V1
 cases B1 with
 | false =>
  go_wp2_with fail;go_ret;exact ⟨by rw [HC.out]; simp, G.1⟩
 | true =>
  go_wp2_with fail;refine (E2.out V).mono ?_;rintro e V2 ⟨rfl, hVe⟩;rw [hVe];clear hVe V2
  cases B2 with
  | false =>
   go_wp2_with fail;go_ret;exact ⟨by rw [HC.out]; simp, G.1⟩
  | true =>
   have wn := HWN.out rfl;go_wp2_with fail;refine (E3.out V).mono ?_;rintro e V3 ⟨rfl, hVe⟩;rw [hVe];clear hVe V3
   cases B3 with
   | false =>
    go_wp2_with fail;go_ret;exact ⟨by rw [HC.out]; simp, G.1⟩
   | true =>
    go_wp2_with fail;refine (E4.out V).mono ?_;rintro e V4 ⟨rfl, hVe⟩;rw [hVe];clear hVe V4
    cases B4 with
    | false =>
     go_wp2_with fail;go_ret;exact ⟨by rw [HC.out]; simp, G.1⟩
    | true =>
     go_wp2_with fail;refine (E5.out V).mono ?_;rintro e V5 ⟨rfl, hVe⟩;rw [hVe];clear hVe V5
     cases B5 with
     | false =>
      go_wp2_with fail;go_ret;exact ⟨by rw [HC.out]; simp, G.1⟩
     | true =>
      by_cases h8 : lp <= 8;rotate_left
      ·have h8i : (8 : Int) < (lp : Int) := by omega
       have HF : Hid (revsOk c.bas c.revs = false) := revs_long (by rw [HRV.1]; exact h8);go_wp2_with fail;go_ret;exact ⟨by rw [HC.out, HF.out]; simp, G.1⟩
      have h8i : ¬ (8 : Int) < (lp : Int) := by omega
      by_cases s15 : c.sig.size = 15;rotate_left
      ·have si : ¬ (c.sig.size : Int) = 15 := by omega
       have HN : Hid (decide (c.sig.size = 15) = false) := decide_eq_false s15;have sb : ((c.sig.size : Int) != 15) = true := bne_iff_ne.2 si;clear s15;go_wp2_with fail;go_ret;exact ⟨by rw [HC.out, HN.out]; simp, G.1⟩
      have si : (c.sig.size : Int) = 15 := by omega
      have HC2 : Hid (crlOk c = revsOk c.bas c.revs) := by show crlOk c = _; rw [HC.out, decide_eq_true s15]; simp
      clear s15;go_wp2_with fail;clear si h8i c0 c1 c2 c3 c4 c5 c6 wn
      go_loopw [3] (fun iv wr => ∃ k : Nat, k <= lp /\ iv = zI k /\ Hid ((∀ j, j < k -> revIn c.bas (c.revs.getD j (0, 0)) = true) /\ ∀ j, 0 < j -> j < k -> (c.revs.getD (j - 1) (0, 0)).1 < (c.revs.getD j (0, 0)).1) /\ Hid (zW w wr /\ Blk wr w.heap.size 65 (zCl c (zS pa lp pc)))) (fun iv _ => lp - (intOf iv).toNat)
      case atStart => exact ⟨0, Nat.zero_le _, rfl, ⟨fun j hj => absurd hj (Nat.not_lt_zero _), fun j _ hj => absurd hj (Nat.not_lt_zero _)⟩, G.out⟩
      case round =>
       obtain ⟨k, hk, rfl, HI, HG⟩ := hrel;have c4 : wr.cell? ⟨w.heap.size, 4, none⟩ = some (zI c.bas) := HG.2.cell 4;have c5 : wr.cell? ⟨w.heap.size, 5, none⟩ = some (zS pa lp pc) := HG.2.cell 5;by_cases hlt : k < lp;rotate_left
       ·have hki : ¬ (k : Int) < (lp : Int) := by omega
        have HF : Hid (revsOk c.bas c.revs = true) := by
         have hkl : k = lp := by omega
         have e := HRV.1;exact revs_yes (by omega) (fun i hi => HI.1 i (by omega)) (fun i h0 hi => HI.2 i h0 (by omega))
        go_wp2_with fail;go_ret;exact ⟨by rw [HC2.out, HF.out]; rfl, HG.1⟩
       obtain ⟨g, hao, hg, hc1, hc2⟩ := HRV.2 k (by rw [HRV.1]; exact hlt);have d1 : wr.cell? ⟨g, k * 2, none⟩ = some (zI (c.revs.getD k (0, 0)).1) := (HG.1.cell (p := ⟨g, k * 2, none⟩) hg).trans hc1;have d2 : wr.cell? ⟨g, k * 2 + 1, none⟩ = some (zI (c.revs.getD k (0, 0)).2) := (HG.1.cell (p := ⟨g, k * 2 + 1, none⟩) hg).trans hc2;have HY : Hid (0 < k -> wr.cell? ⟨g, (k - 1) * 2, none⟩ = some (zI (c.revs.getD (k - 1) (0, 0)).1)) := fun h0 => by
        obtain ⟨g2, e2, hg2, hcy, _⟩ := HRV.2 (k - 1) (by rw [HRV.1]; omega);rw [hao] at e2;simp at e2;subst e2;exact (HG.1.cell (p := ⟨g, (k - 1) * 2, none⟩) hg2).trans hcy
       have HX1 : Hid (revIn c.bas (c.revs.getD k (0, 0)) = false -> crlOk c = false) := fun q => by rw [HC2.out]; exact revs_bad (by rw [HRV.1]; exact hlt) q
       have HX2 : Hid (0 < k -> ¬ (c.revs.getD (k - 1) (0, 0)).1 < (c.revs.getD k (0, 0)).1 -> crlOk c = false) := fun h0 q => by rw [HC2.out]; exact revs_down h0 (by rw [HRV.1]; exact hlt) q
       have HX3 : Hid (revIn c.bas (c.revs.getD k (0, 0)) = true -> (0 < k -> (c.revs.getD (k - 1) (0, 0)).1 < (c.revs.getD k (0, 0)).1) -> (∀ j, j < k + 1 -> revIn c.bas (c.revs.getD j (0, 0)) = true) /\ ∀ j, 0 < j -> j < k + 1 -> (c.revs.getD (j - 1) (0, 0)).1 < (c.revs.getD j (0, 0)).1) := fun q q2 => ⟨fun j hj => by
         by_cases e : j = k
         ·rw [e]; exact q
         ·exact HI.1 j (by omega), fun j h0 hj => by
         by_cases e : j = k
         ·rw [e]; exact q2 (by omega)
         ·exact HI.2 j h0 (by omega)⟩
       have HREV : Hid (revIn c.bas (c.revs.getD k (0, 0)) = (inB (c.revs.getD k (0, 0)).1 0 9999 && (inB (c.revs.getD k (0, 0)).2 1 10 && !(decide ((c.revs.getD k (0, 0)).2 = 8) && decide (c.bas = 0))))) := rfl;obtain ⟨bs, hbs⟩ := zE (c.bas);have HBS : Hid (c.bas = bs) := hbs;generalize revIn c.bas (c.revs.getD k (0, 0)) = R at *;rw [hbs] at HREV c4;clear hbs;generalize (c.revs.getD k (0, 0)).1 = s at *;generalize (c.revs.getD k (0, 0)).2 = r at *;generalize (c.revs.getD (k - 1) (0, 0)).1 = y at *;subst hao;have HGL : Hid (g < w.heap.size) := hg;clear hc1 hc2 hg HI;have hki : (k : Int) < (lp : Int) := by omega
       have hk0 : (0 : Int) <= (k : Int) := by omega
       obtain ⟨S, hS⟩ := zE (inB s 0 9999);obtain ⟨Q, hQ⟩ := zE (inB r 1 10);have EA : Hid (∀ W, Calls Tryz.prog 31 #[zI s] W fun e w' => e = .returned (.bool S) /\ w' = W) := fun W => by rw [<- hS]; exact num_same _ W
       have EB : Hid (∀ W, Calls Tryz.prog 30 #[zI r, zI 1, zI 10] W fun e w' => e = .returned (.bool Q) /\ w' = W) := fun W => by rw [<- hQ]; exact inW_same _ _ _ W
       rw [hS, hQ] at HREV;clear hS hQ
       cases S with
       | false =>
        have HF : Hid (crlOk c = false) := HX1.out (by rw [HREV.out]; rfl);clear HX1 HX2 HX3 HY;go_wp2_with fail;obtain ⟨W1, hW1⟩ : ∃ W, W = wr.alloc (Obj.cells #[zI s, zI r] 166) := ⟨_, rfl⟩;rw [<- hW1];have hbW : zW wr W1 := by rw [hW1]; exact (Below.refl _ _).alloc (Nat.le_refl _) _
        have HGW := zH (zJ (HG.1.trans (hbW.mono HG.1.size)) (HG.2.below hbW HG.2.lt));have hnb : Blk W1 wr.heap.size 166 #[zI s, zI r] := by rw [hW1]; exact Blk.new wr _ _
        have e0 := fun j => hnb.cell j
        have e4 : W1.cell? ⟨w.heap.size, 4, none⟩ = some (zI bs) := by rw [<- HBS.out]; exact HGW.2.cell 4
        have e5 := fun j => HGW.2.cell j
        clear hW1 hbW hnb d1 d2 c4 c5 HG
        go_quiet (first | exact Calls.quiet_of_same (EA.out _) | exact Calls.quiet_of_same (EB.out _))
        go_wp2_with fail;go_ret;exact ⟨by rw [HF.out]; rfl, below_drewN HGW.1 _⟩
       | true =>
        cases Q with
        | false =>
         have HF : Hid (crlOk c = false) := HX1.out (by rw [HREV.out]; rfl);clear HX1 HX2 HX3 HY;go_wp2_with fail;obtain ⟨W1, hW1⟩ : ∃ W, W = wr.alloc (Obj.cells #[zI s, zI r] 166) := ⟨_, rfl⟩;rw [<- hW1];have hbW : zW wr W1 := by rw [hW1]; exact (Below.refl _ _).alloc (Nat.le_refl _) _
         have HGW := zH (zJ (HG.1.trans (hbW.mono HG.1.size)) (HG.2.below hbW HG.2.lt));have hnb : Blk W1 wr.heap.size 166 #[zI s, zI r] := by rw [hW1]; exact Blk.new wr _ _
         have e0 := fun j => hnb.cell j
         have e4 : W1.cell? ⟨w.heap.size, 4, none⟩ = some (zI bs) := by rw [<- HBS.out]; exact HGW.2.cell 4
         have e5 := fun j => HGW.2.cell j
         clear hW1 hbW hnb d1 d2 c4 c5 HG
         go_quiet (first | exact Calls.quiet_of_same (EA.out _) | exact Calls.quiet_of_same (EB.out _))
         go_wp2_with fail;go_ret;exact ⟨by rw [HF.out]; rfl, below_drewN HGW.1 _⟩
        | true =>
         by_cases hr8 : r = 8
         ·subst hr8
          by_cases hb0 : bs = 0
          ·subst hb0
           have HF : Hid (crlOk c = false) := HX1.out (by rw [HREV.out]; rfl);clear HX1 HX2 HX3 HY;go_wp2_with fail;obtain ⟨W1, hW1⟩ : ∃ W, W = wr.alloc (Obj.cells #[zI s, zI 8] 166) := ⟨_, rfl⟩;rw [<- hW1];have hbW : zW wr W1 := by rw [hW1]; exact (Below.refl _ _).alloc (Nat.le_refl _) _
           have HGW := zH (zJ (HG.1.trans (hbW.mono HG.1.size)) (HG.2.below hbW HG.2.lt));have hnb : Blk W1 wr.heap.size 166 #[zI s, zI 8] := by rw [hW1]; exact Blk.new wr _ _
           have e0 := fun j => hnb.cell j
           have e4 : W1.cell? ⟨w.heap.size, 4, none⟩ = some (zI 0) := by rw [<- HBS.out]; exact HGW.2.cell 4
           have e5 := fun j => HGW.2.cell j
           clear hW1 hbW hnb d1 d2 c4 c5 HG
           go_quiet (first | exact Calls.quiet_of_same (EA.out _) | exact Calls.quiet_of_same (EB.out _))
           go_wp2_with fail;go_ret;exact ⟨by rw [HF.out]; rfl, below_drewN HGW.1 _⟩
          ·have hbq : (bs == 0) = false := beq_eq_false_iff_ne.2 hb0
           have HR : Hid (R = true) := by show R = true; rw [HREV.out]; rw [decide_eq_false hb0]; simp
           by_cases hz : 0 < k
           ·have hzi : (0 : Int) < (k : Int) := by omega
            have cy := HY.out hz;have wk : IntKind.i64.wrap ((k : Int) - 1) = ((k - 1 : Nat) : Int) := by rw [IntKind.wrap_i64]; omega
            have hk1i : ((k - 1 : Nat) : Int) < (lp : Int) := by omega
            have hk10 : (0 : Int) <= ((k - 1 : Nat) : Int) := by omega
            by_cases hys : y < s
            ·have HN : Hid ((∀ j, j < k + 1 -> revIn c.bas (c.revs.getD j (0, 0)) = true) /\ ∀ j, 0 < j -> j < k + 1 -> (c.revs.getD (j - 1) (0, 0)).1 < (c.revs.getD j (0, 0)).1) := HX3.out HR.out fun _ => hys
             have qn : ¬ s <= y := by omega
             clear HX1 HX2 HX3 HY;generalize k - 1 = m at *;go_wp2_with fail;obtain ⟨W1, hW1⟩ : ∃ W, W = wr.alloc (Obj.cells #[zI s, zI 8] 166) := ⟨_, rfl⟩;rw [<- hW1];have hbW : zW wr W1 := by rw [hW1]; exact (Below.refl _ _).alloc (Nat.le_refl _) _
             have HGW := zH (zJ (HG.1.trans (hbW.mono HG.1.size)) (HG.2.below hbW HG.2.lt));have hnb : Blk W1 wr.heap.size 166 #[zI s, zI 8] := by rw [hW1]; exact Blk.new wr _ _
             have e0 := fun j => hnb.cell j
             have e4 : W1.cell? ⟨w.heap.size, 4, none⟩ = some (zI bs) := by rw [<- HBS.out]; exact HGW.2.cell 4
             have e5 := fun j => HGW.2.cell j
             have ey : W1.cell? ⟨g, m * 2, none⟩ = some (zI y) := (hbW.cell (p := ⟨g, m * 2, none⟩) (by show g < wr.heap.size; have h1 := HGL.out; have h2 := HG.1.size; omega)).trans cy;clear hW1 hbW hnb d1 d2 c4 c5 HG
             go_quiet (first | exact Calls.quiet_of_same (EA.out _) | exact Calls.quiet_of_same (EB.out _))
             go_wp2_with fail
             go_roundw
             case rel => exact ⟨k + 1, by omega, by go_num, HN, below_drewN HGW.1 _, blk_drewN HGW.2 _⟩
             case measure => simp [intOf]; omega
            ·have HF : Hid (crlOk c = false) := HX2.out hz hys
             have qn : s <= y := by omega
             clear HX1 HX2 HX3 HY;generalize k - 1 = m at *;go_wp2_with fail;obtain ⟨W1, hW1⟩ : ∃ W, W = wr.alloc (Obj.cells #[zI s, zI 8] 166) := ⟨_, rfl⟩;rw [<- hW1];have hbW : zW wr W1 := by rw [hW1]; exact (Below.refl _ _).alloc (Nat.le_refl _) _
             have HGW := zH (zJ (HG.1.trans (hbW.mono HG.1.size)) (HG.2.below hbW HG.2.lt));have hnb : Blk W1 wr.heap.size 166 #[zI s, zI 8] := by rw [hW1]; exact Blk.new wr _ _
             have e0 := fun j => hnb.cell j
             have e4 : W1.cell? ⟨w.heap.size, 4, none⟩ = some (zI bs) := by rw [<- HBS.out]; exact HGW.2.cell 4
             have e5 := fun j => HGW.2.cell j
             have ey : W1.cell? ⟨g, m * 2, none⟩ = some (zI y) := (hbW.cell (p := ⟨g, m * 2, none⟩) (by show g < wr.heap.size; have h1 := HGL.out; have h2 := HG.1.size; omega)).trans cy;clear hW1 hbW hnb d1 d2 c4 c5 HG
             go_quiet (first | exact Calls.quiet_of_same (EA.out _) | exact Calls.quiet_of_same (EB.out _))
             go_wp2_with fail;go_ret;exact ⟨by rw [HF.out]; rfl, below_drewN HGW.1 _⟩
           ·have hzi : ¬ (0 : Int) < (k : Int) := by omega
            have HN : Hid ((∀ j, j < k + 1 -> revIn c.bas (c.revs.getD j (0, 0)) = true) /\ ∀ j, 0 < j -> j < k + 1 -> (c.revs.getD (j - 1) (0, 0)).1 < (c.revs.getD j (0, 0)).1) := HX3.out HR.out fun q => absurd q hz
            clear HX1 HX2 HX3 HY;go_wp2_with fail;obtain ⟨W1, hW1⟩ : ∃ W, W = wr.alloc (Obj.cells #[zI s, zI 8] 166) := ⟨_, rfl⟩;rw [<- hW1];have hbW : zW wr W1 := by rw [hW1]; exact (Below.refl _ _).alloc (Nat.le_refl _) _
            have HGW := zH (zJ (HG.1.trans (hbW.mono HG.1.size)) (HG.2.below hbW HG.2.lt));have hnb : Blk W1 wr.heap.size 166 #[zI s, zI 8] := by rw [hW1]; exact Blk.new wr _ _
            have e0 := fun j => hnb.cell j
            have e4 : W1.cell? ⟨w.heap.size, 4, none⟩ = some (zI bs) := by rw [<- HBS.out]; exact HGW.2.cell 4
            have e5 := fun j => HGW.2.cell j
            clear hW1 hbW hnb d1 d2 c4 c5 HG
            go_quiet (first | exact Calls.quiet_of_same (EA.out _) | exact Calls.quiet_of_same (EB.out _))
            go_wp2_with fail
            go_roundw
            case rel => exact ⟨k + 1, by omega, by go_num, HN, below_drewN HGW.1 _, blk_drewN HGW.2 _⟩
            case measure => simp [intOf]; omega
         ·have hrq : (r == 8) = false := beq_eq_false_iff_ne.2 hr8
          have HR : Hid (R = true) := by show R = true; rw [HREV.out]; rw [decide_eq_false hr8]; simp
          by_cases hz : 0 < k
          ·have hzi : (0 : Int) < (k : Int) := by omega
           have cy := HY.out hz;have wk : IntKind.i64.wrap ((k : Int) - 1) = ((k - 1 : Nat) : Int) := by rw [IntKind.wrap_i64]; omega
           have hk1i : ((k - 1 : Nat) : Int) < (lp : Int) := by omega
           have hk10 : (0 : Int) <= ((k - 1 : Nat) : Int) := by omega
           by_cases hys : y < s
           ·have HN : Hid ((∀ j, j < k + 1 -> revIn c.bas (c.revs.getD j (0, 0)) = true) /\ ∀ j, 0 < j -> j < k + 1 -> (c.revs.getD (j - 1) (0, 0)).1 < (c.revs.getD j (0, 0)).1) := HX3.out HR.out fun _ => hys
            have qn : ¬ s <= y := by omega
            clear HX1 HX2 HX3 HY;generalize k - 1 = m at *;go_wp2_with fail;obtain ⟨W1, hW1⟩ : ∃ W, W = wr.alloc (Obj.cells #[zI s, zI r] 166) := ⟨_, rfl⟩;rw [<- hW1];have hbW : zW wr W1 := by rw [hW1]; exact (Below.refl _ _).alloc (Nat.le_refl _) _
            have HGW := zH (zJ (HG.1.trans (hbW.mono HG.1.size)) (HG.2.below hbW HG.2.lt));have hnb : Blk W1 wr.heap.size 166 #[zI s, zI r] := by rw [hW1]; exact Blk.new wr _ _
            have e0 := fun j => hnb.cell j
            have e4 : W1.cell? ⟨w.heap.size, 4, none⟩ = some (zI bs) := by rw [<- HBS.out]; exact HGW.2.cell 4
            have e5 := fun j => HGW.2.cell j
            have ey : W1.cell? ⟨g, m * 2, none⟩ = some (zI y) := (hbW.cell (p := ⟨g, m * 2, none⟩) (by show g < wr.heap.size; have h1 := HGL.out; have h2 := HG.1.size; omega)).trans cy;clear hW1 hbW hnb d1 d2 c4 c5 HG
            go_quiet (first | exact Calls.quiet_of_same (EA.out _) | exact Calls.quiet_of_same (EB.out _))
            go_wp2_with fail
            go_roundw
            case rel => exact ⟨k + 1, by omega, by go_num, HN, below_drewN HGW.1 _, blk_drewN HGW.2 _⟩
            case measure => simp [intOf]; omega
           ·have HF : Hid (crlOk c = false) := HX2.out hz hys
            have qn : s <= y := by omega
            clear HX1 HX2 HX3 HY;generalize k - 1 = m at *;go_wp2_with fail;obtain ⟨W1, hW1⟩ : ∃ W, W = wr.alloc (Obj.cells #[zI s, zI r] 166) := ⟨_, rfl⟩;rw [<- hW1];have hbW : zW wr W1 := by rw [hW1]; exact (Below.refl _ _).alloc (Nat.le_refl _) _
            have HGW := zH (zJ (HG.1.trans (hbW.mono HG.1.size)) (HG.2.below hbW HG.2.lt));have hnb : Blk W1 wr.heap.size 166 #[zI s, zI r] := by rw [hW1]; exact Blk.new wr _ _
            have e0 := fun j => hnb.cell j
            have e4 : W1.cell? ⟨w.heap.size, 4, none⟩ = some (zI bs) := by rw [<- HBS.out]; exact HGW.2.cell 4
            have e5 := fun j => HGW.2.cell j
            have ey : W1.cell? ⟨g, m * 2, none⟩ = some (zI y) := (hbW.cell (p := ⟨g, m * 2, none⟩) (by show g < wr.heap.size; have h1 := HGL.out; have h2 := HG.1.size; omega)).trans cy;clear hW1 hbW hnb d1 d2 c4 c5 HG
            go_quiet (first | exact Calls.quiet_of_same (EA.out _) | exact Calls.quiet_of_same (EB.out _))
            go_wp2_with fail;go_ret;exact ⟨by rw [HF.out]; rfl, below_drewN HGW.1 _⟩
          ·have hzi : ¬ (0 : Int) < (k : Int) := by omega
           have HN : Hid ((∀ j, j < k + 1 -> revIn c.bas (c.revs.getD j (0, 0)) = true) /\ ∀ j, 0 < j -> j < k + 1 -> (c.revs.getD (j - 1) (0, 0)).1 < (c.revs.getD j (0, 0)).1) := HX3.out HR.out fun q => absurd q hz
           clear HX1 HX2 HX3 HY;go_wp2_with fail;obtain ⟨W1, hW1⟩ : ∃ W, W = wr.alloc (Obj.cells #[zI s, zI r] 166) := ⟨_, rfl⟩;rw [<- hW1];have hbW : zW wr W1 := by rw [hW1]; exact (Below.refl _ _).alloc (Nat.le_refl _) _
           have HGW := zH (zJ (HG.1.trans (hbW.mono HG.1.size)) (HG.2.below hbW HG.2.lt));have hnb : Blk W1 wr.heap.size 166 #[zI s, zI r] := by rw [hW1]; exact Blk.new wr _ _
           have e0 := fun j => hnb.cell j
           have e4 : W1.cell? ⟨w.heap.size, 4, none⟩ = some (zI bs) := by rw [<- HBS.out]; exact HGW.2.cell 4
           have e5 := fun j => HGW.2.cell j
           clear hW1 hbW hnb d1 d2 c4 c5 HG
           go_quiet (first | exact Calls.quiet_of_same (EA.out _) | exact Calls.quiet_of_same (EB.out _))
           go_wp2_with fail
           go_roundw
           case rel => exact ⟨k + 1, by omega, by go_num, HN, below_drewN HGW.1 _, blk_drewN HGW.2 _⟩
           case measure => simp [intOf]; omega
end Go.Proofs.YtabfamhaihnccaaGreat
