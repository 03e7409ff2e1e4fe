/-
  ReadNat by a name of its own.
-/
import Derived.Test.YtoildgknpfehoaaDoorSpG
namespace Go.Proofs.YtoildgknpfehoaaDoor
open Go.RowKit
/-- What ReadNat tells of a text. -/
def readL (s : ByteArray) : List Int := if s.size ≤ 60 then digs (horn 256 (bytesI s)) else []
theorem readL_len2 (s : ByteArray) : (readL s).length ≤ 40 := readL_len s
theorem specReadL_any (s : ByteArray) (w : World) (hs : s.size ≤ 1048576) :
    Calls Tryd.prog 31 #[.string s] w fun e w' => ∃ v, e = .returned v ∧ OwnI w' w.heap.size v (readL s) ∧ Below w.heap.size w w' := specRead_any s w hs
theorem implReadL_any (s : ByteArray) (w : World) (hs : s.size ≤ 1048576) :
    Calls Tryd.prog 34 #[.string s] w fun e w' => ∃ v, e = .returned v ∧ OwnI w' w.heap.size v (readL s) ∧ Below w.heap.size w w' := implRead_any s w hs
end Go.Proofs.YtoildgknpfehoaaDoor
