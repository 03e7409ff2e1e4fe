/-
  Texts of the proof.
-/
import Derived.Test.YtcbjlbpkoneibaaGreatDoorSR3
set_option linter.unusedVariables false
set_option linter.unusedSimpArgs false
set_option maxRecDepth 100000
set_option maxHeartbeats 25600000
namespace Go.Proofs.YtcbjlbpkoneibaaGreatDoor
open Go.RowKit
theorem compare_any (a b : Value) (la lb : List Int) (w : World) (hl : la.length <= 1000000) (hl2 : lb.length <= 1000000) (hda : Dig la) (hdb : Dig lb) (ha : IntAt w a la) (hb : IntAt w b lb) :
  Calls Tryz.prog 94 #[a, b] w fun e w' => e = .returned (zI (cmpI (ev la) (ev lb))) /\ zW w w' := by
 have HA : Hid (IntAt w a la /\ Dig la) := ⟨ha, hda⟩;have HB : Hid (IntAt w b lb /\ Dig lb) := ⟨hb, hdb⟩;obtain ⟨ao, ac, hae, HA0⟩ := ha;obtain ⟨bo, bc, hbe, HB0⟩ := hb;subst hae hbe;clear hda hdb;go_enter Tryz.func94, Tryz.ntmps94
 go_wp2
 all_goals (
  clear HA0 HB0
  go_loopw [5] (fun s wr => ∃ z : Int, -1 <= z /\ z < 1000000 /\ s = zI z /\ zW w wr /\ Hid (∀ j : Nat, z < (j : Int) -> la.getD j 0 = lb.getD j 0)) (fun s _ => (intOf s + 1).toNat)
  case atStart =>
   first
   | exact ⟨(lb.length : Int) - 1, by omega, by omega, rfl, Below.refl _ _, fun j hj => by rw [getD_past (by omega), getD_past (by omega)]⟩
   | exact ⟨(la.length : Int) - 1, by omega, by omega, rfl, Below.refl _ _, fun j hj => by rw [getD_past (by omega), getD_past (by omega)]⟩
  case round =>
   obtain ⟨z, hz1, hz2, rfl, hbel, HZ⟩ := hrel;by_cases hz : z < 0
   ·have e : Hid (ev la = ev lb) := ev_same fun j => HZ.out j (by omega)
    go_wp2
    go_ret;exact ⟨congrArg (fun z => Ending.returned (Value.int .i64 z)) (cmpI_eq e.out).symm, hbel⟩
   ·have EA := at_any (zS ao la.length ac) la z wr (by omega) (HA.1.below hbel)
    have EB := at_any (zS bo lb.length bc) lb z wr (by omega) (HB.1.below hbel);have ez : z = ((z.toNat : Nat) : Int) := by omega
    have HQ : Hid ((atI la z < atI lb z -> cmpI (ev la) (ev lb) = -1) /\ (atI lb z < atI la z -> cmpI (ev la) (ev lb) = 1) /\ (atI la z = atI lb z -> ∀ j : Nat, z - 1 < (j : Int) -> la.getD j 0 = lb.getD j 0)) := by
     rw [ez, atI_nat, atI_nat];exact ⟨fun h => cmpI_lt (ev_lt_at HA.2 HB.2 z.toNat (fun j hj => HZ.out j (by omega)) h), fun h => cmpI_gt (ev_lt_at HB.2 HA.2 z.toNat (fun j hj => (HZ.out j (by omega)).symm) h), fun h j hj => by
      by_cases e : j = z.toNat
      ·rw [e]; exact h
      ·exact HZ.out j (by omega)⟩
    clear HZ HA HB ez;generalize atI la z = x at *;generalize atI lb z = y at *;go_wp2_with fail;refine EA.mono ?_;rintro e w' ⟨rfl, rfl⟩;go_wp2_with fail;refine EB.mono ?_;rintro e w' ⟨rfl, rfl⟩;go_wp2_with fail
    ·have h1 : x < y := by assumption
     go_ret;exact ⟨congrArg (fun z => Ending.returned (Value.int .i64 z)) (HQ.1 h1).symm, hbel⟩
    ·refine EA.mono ?_
     rintro e w' ⟨rfl, rfl⟩;go_wp2_with fail;refine EB.mono ?_;rintro e w' ⟨rfl, rfl⟩;go_wp2_with fail
     ·have h1 : y < x := by assumption
      go_ret;exact ⟨congrArg (fun z => Ending.returned (Value.int .i64 z)) (HQ.2.1 h1).symm, hbel⟩
     ·go_roundw
      case rel => exact ⟨z - 1, by omega, by omega, rfl, hbel, HQ.2.2 (by omega)⟩
      case measure => simp [intOf]; omega)
def okL (l : List Int) : Bool := decide (l.length <= 40) && (l.all fun x => decide (0 <= x) && decide (x <= 9999)) && (l.length == 0 || !(l.getD (l.length - 1) 0 == 0))
theorem okL_iff (l : List Int) : okL l = true ↔ l.length <= 40 /\ Dig l /\ Top l := by
 unfold okL;rw [Bool.and_eq_true, Bool.and_eq_true, decide_eq_true_iff, List.all_eq_true, Bool.or_eq_true, beq_iff_eq, Bool.not_eq_true', beq_eq_false_iff_ne];constructor
 ·rintro ⟨⟨h1, h2⟩, h3⟩
  refine ⟨h1, fun x hx => ?_, fun h0 => ?_⟩
  ·have := h2 x hx
   rw [Bool.and_eq_true, decide_eq_true_iff, decide_eq_true_iff] at this;exact this
  ·rcases h3 with h3 | h3
   ·omega
   ·exact h3
 ·rintro ⟨h1, h2, h3⟩
  refine ⟨⟨h1, fun x hx => ?_⟩, ?_⟩
  ·rw [Bool.and_eq_true, decide_eq_true_iff, decide_eq_true_iff]
   exact h2 x hx
  ·by_cases h0 : l.length = 0
   ·exact .inl h0
   ·exact .inr (h3 (by omega))
theorem okL_yes {l : List Int} (h1 : l.length <= 40) (h2 : Dig l) (h3 : Top l) : okL l = true := (okL_iff l).2 ⟨h1, h2, h3⟩
theorem okL_no {l : List Int} (h : ¬ (l.length <= 40 /\ Dig l /\ Top l)) : okL l = false := by
 rcases e : okL l with _ | _
 ·rfl
 ·exact absurd ((okL_iff l).1 e) h
theorem right_any (a : Value) (la : List Int) (w : World) (hl : la.length <= 10000000) (ha : IntAt w a la) (hw : ∀ x ∈ la, -9223372036854775808 <= x /\ x <= 9223372036854775807) :
  Calls Tryz.prog 134 #[a] w fun e w' => e = .returned (.bool (okL la)) /\ zW w w' := by
 obtain ⟨ao, ac, rfl, ha⟩ := ha;have HA : Hid ((0 < la.length -> ∃ g, ao = some ⟨g, 0, none⟩ /\ g < w.heap.size /\ ∀ j (hj : j < la.length), w.cell? ⟨g, j, none⟩ = some (zI la[j])) /\ ∀ x ∈ la, -9223372036854775808 <= x /\ x <= 9223372036854775807) := ⟨ha, hw⟩;clear ha hw;by_cases h40 : la.length <= 40
 ·have hq40 : ¬ (40 : Int) < (la.length : Int) := by omega
  go_enter Tryz.func134, Tryz.ntmps134
  go_wp2
  go_loopw [10] (fun iv wr => ∃ k : Nat, k <= la.length /\ iv = zI k /\ zW w wr /\ Hid (∀ j, j < k -> 0 <= la.getD j 0 /\ la.getD j 0 <= 9999)) (fun iv _ => la.length - (intOf iv).toNat)
  case atStart => exact ⟨0, Nat.zero_le _, rfl, Below.refl _ _, fun j hj => by omega⟩
  case round =>
   obtain ⟨k, hk, rfl, hbel, HK⟩ := hrel;by_cases hlt : k < la.length
   ·obtain ⟨g, hao, hgl, hcs⟩ := HA.1 (by omega)
    have hu : wr.cell? ⟨g, k, none⟩ = some (zI (la.getD k 0)) := by
     rw [hbel.cell (p := ⟨g, k, none⟩) hgl, hcs k hlt]; simp [List.getD, hlt]
    subst hao;clear hcs hgl;have HX : Hid (∀ x, la.getD k 0 = x -> (0 <= x /\ x <= 9999 -> ∀ j, j < k + 1 -> 0 <= la.getD j 0 /\ la.getD j 0 <= 9999) /\ (¬ (0 <= x /\ x <= 9999) -> okL la = false)) := fun x hx => by
     refine ⟨fun h j hj => ?_, fun h => okL_no fun h3 => h (hx ▸ h3.2.1.getD k)⟩;by_cases e : j = k
     ·rw [e, hx]; exact h
     ·exact HK.out j (by omega)
    have HX2 := HX.out _ rfl;have HX3 : Hid ((0 <= la.getD k 0 /\ la.getD k 0 <= 9999 -> ∀ j, j < k + 1 -> 0 <= la.getD j 0 /\ la.getD j 0 <= 9999) /\ (¬ (0 <= la.getD k 0 /\ la.getD k 0 <= 9999) -> okL la = false)) := HX2;clear HX HX2 HK;have hki : (k : Int) < (la.length : Int) := by omega
    have hk0 : (0 : Int) <= (k : Int) := by omega
    generalize la.getD k 0 = x at *;by_cases h0 : x < 0
    ·go_wp2
     go_ret;exact ⟨congrArg (fun z => Ending.returned (Value.bool z)) (HX3.2 (by omega)).symm, hbel⟩
    ·by_cases h1 : x <= 9999
     ·have h1' : ¬ (10000 : Int) <= x := by omega
      go_wp2
      go_roundw
      case rel => exact ⟨k + 1, by omega, by go_num, hbel, HX3.1 ⟨by omega, h1⟩⟩
      case measure => simp [intOf]; omega
     ·have h1' : (10000 : Int) <= x := by omega
      go_wp2
      go_ret;exact ⟨congrArg (fun z => Ending.returned (Value.bool z)) (HX3.2 (by omega)).symm, hbel⟩
   ·have hkl : k = la.length := by omega
    subst hkl;by_cases hz : la.length = 0
    ·have hz' : ((la.length : Int) == 0) = true := by simpa using hz
     have HE : Hid (okL la = true) := okL_yes h40 (dig_of_getD HK.out) (fun h => by omega)
     go_wp2
     go_ret;exact ⟨congrArg (fun z => Ending.returned (Value.bool z)) HE.out.symm, hbel⟩
    ·have hz' : ((la.length : Int) == 0) = false := by simpa using hz
     obtain ⟨g, hao, hgl, hcs⟩ := HA.1 (by omega);have hu : wr.cell? ⟨g, la.length - 1, none⟩ = some (zI (la.getD (la.length - 1) 0)) := by
      rw [hbel.cell (p := ⟨g, la.length - 1, none⟩) hgl, hcs (la.length - 1) (by omega)]; simp [List.getD, show la.length - 1 < la.length by omega]
     subst hao;clear hcs hgl;have HE : Hid ((la.getD (la.length - 1) 0 ≠ 0 -> okL la = true) /\ (la.getD (la.length - 1) 0 = 0 -> okL la = false)) := ⟨fun h => okL_yes h40 (dig_of_getD HK.out) (fun _ => h), fun h => okL_no (fun h3 => h3.2.2 (by omega) h)⟩;clear HK;generalize la.getD (la.length - 1) 0 = x at *;have hz1 : 1 <= la.length := by omega
     by_cases hx : x = 0
     ·subst hx
      go_wp2
      go_ret;exact ⟨congrArg (fun z => Ending.returned (Value.bool z)) (HE.2 trivial).symm, hbel⟩
     ·have hx' : (x == 0) = false := by simpa using hx
      go_wp2
      go_ret;exact ⟨congrArg (fun z => Ending.returned (Value.bool z)) (show (x != 0) = okL la by rw [HE.1 hx]; simp [hx]), hbel⟩
 ·rw [okL_no (fun h => h40 h.1)]
  have hq40 : (40 : Int) < (la.length : Int) := by omega
  go_enter Tryz.func134, Tryz.ntmps134
  go_wp2
  go_ret;exact ⟨rfl, Below.refl _ _⟩
end Go.Proofs.YtcbjlbpkoneibaaGreatDoor
