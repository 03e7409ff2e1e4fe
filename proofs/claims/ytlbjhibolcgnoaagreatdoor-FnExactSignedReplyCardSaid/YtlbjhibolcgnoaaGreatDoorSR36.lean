/-
  Texts of the proof.
-/
import Derived.OpenShut
import Derived.OpenVars
import Derived.Test.YtlbjhibolcgnoaaGreatDoorSR26
namespace Go.Proofs.YtlbjhibolcgnoaaGreatDoor
open Go.RowKit Go.ChangeShapes
theorem trodVars_three {H : Type} {enc : TypeId × Value -> H} {P : Program} {w : World} {spare : Nat -> Bool} {n0 n1 n2 : String} {gs : List (DataW H)} {ps : List MemPlace} (h : DataW.TrodVars enc P w spare [n0, n1, n2] gs ps) : ∃ d0 d1 d2, gs = [d0, d1, d2] := by
 cases gs with
 | nil => simp [DataW.TrodVars] at h
 | cons d ds =>
  obtain ⟨g0, t0, cs0, f0, p0, q0, h1, h2, h3, h4, hs, e⟩ := h
  obtain ⟨_, _, _, _, d1, _, _, _, _, _, d2, _, rfl, _⟩ := trodVars_two hs
  exact ⟨d, d1, d2, rfl⟩
theorem all_of {W : World} (h : laidMetH Tryz.prog [("loop.example/g00394/impl.roundNumbers", Lib.tabData .u32 (keysN.map fun n => ((n : Nat) : Int))), ("loop.example/g00394/impl.startNumbers", Lib.tabData .u32 firstI), ("loop.example/g00394/impl.houses", housesD)] W) : HousesOk W /\ KeysOk W /\ StartOk W :=
 ⟨houses_of_reads (Lib.laidMet.reads h (.tail _ (.tail _ (.head _)))), tabIs_of_reads gKeys keysType Tryz.underlying97 Tryz.underlying94 cellsU32 cells64 (Lib.laidMet.reads h (.head _)),
  tabIs_of_reads gStart startType Tryz.underlying95 Tryz.underlying94 cellsU32 cells8D (Lib.laidMet.reads h (.tail _ (.head _)))⟩
end Go.Proofs.YtlbjhibolcgnoaaGreatDoor
