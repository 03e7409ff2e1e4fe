/-
  Texts of the proof.
-/
import Derived.Test.YtlbjhibolcgnoaaGreatDoorSR3
set_option maxRecDepth 100000
set_option maxHeartbeats 25600000
namespace Go.Proofs.YtlbjhibolcgnoaaGreatDoor
open Go.RowKit
def okL (l : List Int) : Bool := decide (l.length <= 40) && (l.all fun x => decide (0 <= x) && decide (x <= 9999)) && (l.length == 0 || !(l.getD (l.length - 1) 0 == 0))
theorem okL_iff (l : List Int) : okL l = true ↔ l.length <= 40 /\ Dig l /\ Top l := by
 unfold okL
 rw [Bool.and_eq_true, Bool.and_eq_true, decide_eq_true_iff, List.all_eq_true, Bool.or_eq_true, beq_iff_eq, Bool.not_eq_true', beq_eq_false_iff_ne]
 constructor
 ·rintro ⟨⟨h1, h2⟩, h3⟩
  refine ⟨h1, fun x hx => ?_, fun h0 => ?_⟩
  ·have := h2 x hx
   rw [Bool.and_eq_true, decide_eq_true_iff, decide_eq_true_iff] at this
   exact this
  ·rcases h3 with h3 | h3
   ·omega
   ·exact h3
 ·rintro ⟨h1, h2, h3⟩
  refine ⟨⟨h1, fun x hx => ?_⟩, ?_⟩
  ·rw [Bool.and_eq_true, decide_eq_true_iff, decide_eq_true_iff]
   exact h2 x hx
  ·by_cases h0 : l.length = 0
   ·exact .inl h0
   ·exact .inr (h3 (by omega))
theorem okL_yes {l : List Int} (h1 : l.length <= 40) (h2 : Dig l) (h3 : Top l) : okL l = true := (okL_iff l).2 ⟨h1, h2, h3⟩
theorem okL_no {l : List Int} (h : ¬ (l.length <= 40 /\ Dig l /\ Top l)) : okL l = false := by
 rcases e : okL l with _ | _
 ·rfl
 ·exact absurd ((okL_iff l).1 e) h
theorem right_any (a : Value) (la : List Int) (w : World) (hl : la.length <= 10000000) (ha : IntAt w a la) (hw : ∀ x ∈ la, -9223372036854775808 <= x /\ x <= 9223372036854775807) :
  Calls Tryz.prog 91 #[a] w fun e w' => e = .returned (.bool (okL la)) /\ Below w.heap.size w w' := by
 obtain ⟨ao, ac, rfl, ha⟩ := ha
 have HA : Hid ((0 < la.length -> ∃ g, ao = some ⟨g, 0, none⟩ /\ g < w.heap.size /\ ∀ j (hj : j < la.length), w.cell? ⟨g, j, none⟩ = some (.int .i64 la[j])) /\ ∀ x ∈ la, -9223372036854775808 <= x /\ x <= 9223372036854775807) := ⟨ha, hw⟩
 clear ha hw
 by_cases h40 : la.length <= 40
 ·have hq40 : ¬ (40 : Int) < (la.length : Int) := by omega
  go_enter Tryz.func91, Tryz.ntmps91
  go_wp2
  go_loopw [10] (fun iv wr => ∃ k : Nat, k <= la.length /\ iv = .int .i64 k /\ Below w.heap.size w wr /\ Hid (∀ j, j < k -> 0 <= la.getD j 0 /\ la.getD j 0 <= 9999)) (fun iv _ => la.length - (intOf iv).toNat)
  case atStart => exact ⟨0, Nat.zero_le _, rfl, Below.refl _ _, fun j hj => by omega⟩
  case round =>
   obtain ⟨k, hk, rfl, hbel, HK⟩ := hrel
   by_cases hlt : k < la.length
   ·obtain ⟨g, hao, hgl, hcs⟩ := HA.out.1 (by omega)
    have hu : wr.cell? ⟨g, k, none⟩ = some (.int .i64 (la.getD k 0)) := by
     rw [hbel.cell (p := ⟨g, k, none⟩) hgl, hcs k hlt]; simp [List.getD, hlt]
    subst hao
    clear hcs hgl
    have HX : Hid (∀ x, la.getD k 0 = x -> (0 <= x /\ x <= 9999 -> ∀ j, j < k + 1 -> 0 <= la.getD j 0 /\ la.getD j 0 <= 9999) /\ (¬ (0 <= x /\ x <= 9999) -> okL la = false)) := fun x hx => by
     refine ⟨fun h j hj => ?_, fun h => okL_no fun h3 => h (hx ▸ h3.2.1.getD k)⟩
     by_cases e : j = k
     ·rw [e, hx]; exact h
     ·exact HK.out j (by omega)
    have HX2 := HX.out _ rfl
    have HX3 : Hid ((0 <= la.getD k 0 /\ la.getD k 0 <= 9999 -> ∀ j, j < k + 1 -> 0 <= la.getD j 0 /\ la.getD j 0 <= 9999) /\ (¬ (0 <= la.getD k 0 /\ la.getD k 0 <= 9999) -> okL la = false)) := HX2
    clear HX HX2 HK
    have hki : (k : Int) < (la.length : Int) := by omega
    have hk0 : (0 : Int) <= (k : Int) := by omega
    generalize la.getD k 0 = x at *
    by_cases h0 : x < 0
    ·go_wp2
     go_ret
     exact ⟨congrArg (fun z => Ending.returned (Value.bool z)) (HX3.out.2 (by omega)).symm, hbel⟩
    ·by_cases h1 : x <= 9999
     ·have h1' : ¬ (10000 : Int) <= x := by omega
      go_wp2
      go_roundw
      case rel => exact ⟨k + 1, by omega, by go_num, hbel, HX3.out.1 ⟨by omega, h1⟩⟩
      case measure => simp [intOf]; omega
     ·have h1' : (10000 : Int) <= x := by omega
      go_wp2
      go_ret
      exact ⟨congrArg (fun z => Ending.returned (Value.bool z)) (HX3.out.2 (by omega)).symm, hbel⟩
   ·have hkl : k = la.length := by omega
    subst hkl
    by_cases hz : la.length = 0
    ·have hz' : ((la.length : Int) == 0) = true := by simpa using hz
     have HE : Hid (okL la = true) := okL_yes h40 (dig_of_getD HK.out) (fun h => by omega)
     go_wp2
     go_ret
     exact ⟨congrArg (fun z => Ending.returned (Value.bool z)) HE.out.symm, hbel⟩
    ·have hz' : ((la.length : Int) == 0) = false := by simpa using hz
     obtain ⟨g, hao, hgl, hcs⟩ := HA.out.1 (by omega)
     have hu : wr.cell? ⟨g, la.length - 1, none⟩ = some (.int .i64 (la.getD (la.length - 1) 0)) := by
      rw [hbel.cell (p := ⟨g, la.length - 1, none⟩) hgl, hcs (la.length - 1) (by omega)]; simp [List.getD, show la.length - 1 < la.length by omega]
     subst hao
     clear hcs hgl
     have HE : Hid ((la.getD (la.length - 1) 0 ≠ 0 -> okL la = true) /\ (la.getD (la.length - 1) 0 = 0 -> okL la = false)) := ⟨fun h => okL_yes h40 (dig_of_getD HK.out) (fun _ => h), fun h => okL_no (fun h3 => h3.2.2 (by omega) h)⟩
     clear HK
     generalize la.getD (la.length - 1) 0 = x at *
     have hz1 : 1 <= la.length := by omega
     by_cases hx : x = 0
     ·subst hx
      go_wp2
      go_ret
      exact ⟨congrArg (fun z => Ending.returned (Value.bool z)) (HE.out.2 trivial).symm, hbel⟩
     ·have hx' : (x == 0) = false := by simpa using hx
      go_wp2
      go_ret
      exact ⟨congrArg (fun z => Ending.returned (Value.bool z)) (show (x != 0) = okL la by rw [HE.out.1 hx]; simp [hx]), hbel⟩
 ·rw [okL_no (fun h => h40 h.1)]
  have hq40 : (40 : Int) < (la.length : Int) := by omega
  go_enter Tryz.func91, Tryz.ntmps91
  go_wp2
  go_ret
  exact ⟨rfl, Below.refl _ _⟩
end Go.Proofs.YtlbjhibolcgnoaaGreatDoor
