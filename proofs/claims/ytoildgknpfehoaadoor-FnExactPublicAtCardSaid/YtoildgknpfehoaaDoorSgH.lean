/-
  The houses as a row lists them.
-/
import Derived.Test.YtoildgknpfehoaaDoorSgS
namespace Go.Proofs.YtoildgknpfehoaaDoor
open Go.RowKit

theorem secL_len (i : Int) : (secL i).length ≤ 40 := figL_len (secT i)
theorem houses_of {W : World} (h : laidMetH Tryd.prog [("loop.example/g00394/impl.houses", housesD)] W) : HousesOk W := houses_of_reads (Lib.laidMet.reads h (.head _))
end Go.Proofs.YtoildgknpfehoaaDoor
