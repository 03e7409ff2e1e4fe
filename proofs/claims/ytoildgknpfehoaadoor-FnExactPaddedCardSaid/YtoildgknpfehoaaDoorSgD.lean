/-
  Padded, the program's and the specification's.
-/
import Derived.Test.YtoildgknpfehoaaDoorCutI
import Derived.Test.YtoildgknpfehoaaDoorDigS
namespace Go.Proofs.YtoildgknpfehoaaDoor
open Go.RowKit

/-- What Padded answers. -/
def aheadB : ByteArray := ⟨#[0, 1, 255, 255, 255, 255, 255, 255, 0]⟩
def pddB (s : ByteArray) : ByteArray := aheadB ++ (digB s).extract 0 6
theorem pddB_size (s : ByteArray) : (pddB s).size = 15 := by
  unfold pddB
  rw [ByteArray.size_append, ByteArray.size_extract, digB_size]
  rfl
set_option maxHeartbeats 800000 in
set_option maxRecDepth 100000 in
theorem implPadded_any (s : ByteArray) (w : World) (hs : s.size ≤ 1000000000) (hT : KeysOk w) (hS : StartOk w) : Calls Tryd.prog 16 #[.string s] w fun e w' => e = .returned (.string (pddB s)) ∧ Below w.heap.size w w' := by
  have E := implCut_any s 6 w hs hT hS
  rw [show cutB s 6 = (digB s).extract 0 6 from if_pos (by decide)] at E
  have HN : Hid (pddB s = aheadB ++ (digB s).extract 0 6 ∧ ((digB s).extract 0 6).size = 6) := ⟨rfl, by rw [ByteArray.size_extract, digB_size]; rfl⟩
  clear hT hS
  generalize (digB s).extract 0 6 = D at *
  have hD : D.size = 6 := HN.out.2
  go_enter Tryd.func16, Tryd.ntmps16
  go_wp2_with fail
  refine E.mono ?_
  rintro e w1 ⟨rfl, hb1⟩
  have H1 : Hid (Below w.heap.size w w1) := hb1
  clear hb1 E
  go_wp2_with fail
  go_ret
  exact ⟨by rw [HN.out.1]; rfl, H1.out⟩

set_option maxHeartbeats 800000 in
set_option maxRecDepth 100000 in
theorem specPadded_any (s : ByteArray) (w : World) (hs : s.size ≤ 1000000000) : Calls Tryd.prog 15 #[.string s] w fun e w' => e = .returned (.string (pddB s)) ∧ Below w.heap.size w w' := by
  have E := specDigest_any s w hs
  have HN : Hid (pddB s = aheadB ++ (digB s).extract 0 6 ∧ ((digB s).extract 0 6).size = 6) := ⟨rfl, by rw [ByteArray.size_extract, digB_size]; rfl⟩
  have hz := digB_size s
  have hD : ((digB s).extract 0 6).size = 6 := HN.out.2
  generalize digB s = D at *
  go_enter Tryd.func15, Tryd.ntmps15
  go_wp2_with fail
  refine E.mono ?_
  rintro e w1 ⟨rfl, hb1⟩
  have H1 : Hid (Below w.heap.size w w1) := hb1
  clear hb1 E
  go_wp2_with fail
  go_ret
  exact ⟨by rw [HN.out.1]; rfl, H1.out⟩
end Go.Proofs.YtoildgknpfehoaaDoor
