/-
  Contracts of ShortText: the specification's and the program's answer the bytes of the length, then the text.
-/
import Derived.Test.YthingngbpkbmbaaDoorVar
import Derived.Deep.RegionHeld3
namespace Go.Proofs.YthingngbpkbmbaaDoor
open Go.RowKit

/-- What ShortText answers. -/
def stR (s : ByteArray) : ByteArray × Bool := if 20000 < s.size then (⟨#[]⟩, false) else (⟨((vt s.size).toArray)⟩ ++ s, true)
theorem stR_no {s : ByteArray} (h : 20000 < s.size) : stR s = (⟨#[]⟩, false) := by unfold stR; rw [if_pos h]
theorem stR_yes {s : ByteArray} (h : ¬ 20000 < s.size) : stR s = (⟨((vt s.size).toArray)⟩ ++ s, true) := by unfold stR; rw [if_neg h]

set_option maxHeartbeats 400000 in
theorem implShortText_any (s : ByteArray) (w : World) (hs : s.size ≤ 1000000000000) : Calls Tryd.prog 11 #[.string s] w fun e w' => e = .returned (.tuple #[.string (stR s).1, .bool (stR s).2]) ∧ Below w.heap.size w w' := by
  by_cases h : 20000 < s.size
  · rw [stR_no h]
    go_enter Tryd.func11, Tryd.ntmps11
    go_wp2
    go_ret2
    exact ⟨rfl, Below.refl _ _⟩
  · rw [stR_yes h]
    have hm : s.size ≤ 1000000000 := by omega
    have hl := vt_len s.size
    have hv := vtR_in hm
    go_enter Tryd.func11, Tryd.ntmps11
    go_wp2_with (go_at_call 6; refine (implVarText_any _ _).mono ?_; rw [hv]; rintro e w1 ⟨rfl, hb1⟩)
    go_ret2
    exact ⟨rfl, hb1⟩
end Go.Proofs.YthingngbpkbmbaaDoor
