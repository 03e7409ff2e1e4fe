/-
  The two tables as a row lists them; the figures of a digest, the program's and the specification's.
-/
import Derived.Test.YtoildgknpfehoaaDoorDigS
import Derived.Lib.LaidU8
namespace Go.Proofs.YtoildgknpfehoaaDoor
open Go.RowKit

theorem tabIs_of_reads {P : Program} {W : World} {name : String} {k : IntKind} {zs : List Int} {g : Nat} {t e : TypeId} {n : Nat}
    (hg : P.globalNamed name = some g) (hty : (P.globals[g]?).map (·.type) = some t) (ht : P.underlying t = some (.array n e)) (he : P.underlying e = some (.int k)) (hce : P.cellsOf e = 1) (hct : P.cellsOf t = n)
    (h : Lib.VarReads P W name (Lib.tabData k zs)) : Lib.TabIs P W name k zs := by
  obtain ⟨g', t', cs, fuel, p, hg', ht', hvar, hd⟩ := h
  obtain rfl := Option.some.inj (hg.symm.trans hg')
  obtain rfl := Option.some.inj (hty.symm.trans ht')
  unfold Lib.TabIs
  rw [hvar, ← Lib.cells_of_tab ht he hce hct hd]
theorem keysType : (Tryd.prog.globals[2]?).map (·.type) = some 61 := by kernel_rfl
theorem startType : (Tryd.prog.globals[1]?).map (·.type) = some 59 := by kernel_rfl
theorem cells64 : Tryd.prog.cellsOf 61 = 64 := by kernel_rfl
theorem cells8 : Tryd.prog.cellsOf 59 = 8 := by kernel_rfl
theorem cellsU32 : Tryd.prog.cellsOf 58 = 1 := by kernel_rfl
theorem tables_of {W : World} (h : laidMetH Tryd.prog [("loop.example/g00394/impl.roundNumbers", Lib.tabData .u32 (keysN.map fun n => ((n : Nat) : Int))), ("loop.example/g00394/impl.startNumbers", Lib.tabData .u32 firstI)] W) : KeysOk W ∧ StartOk W :=
  ⟨tabIs_of_reads gKeys keysType Tryd.underlying61 Tryd.underlying58 cellsU32 cells64 (Lib.laidMet.reads h (.head _)),
    tabIs_of_reads gStart startType Tryd.underlying59 Tryd.underlying58 cellsU32 cells8 (Lib.laidMet.reads h (.tail _ (.head _)))⟩

end Go.Proofs.YtoildgknpfehoaaDoor
