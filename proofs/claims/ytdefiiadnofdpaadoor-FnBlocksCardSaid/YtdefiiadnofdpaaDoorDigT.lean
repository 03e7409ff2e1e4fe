/-
  The two tables as a row lists them; the figures of a digest, the program's and the specification's.
-/
import Derived.Test.YtdefiiadnofdpaaDoorDigS
import Derived.Test.YtdefiiadnofdpaaDoorHexS
import Derived.Test.YtdefiiadnofdpaaDoorHexI
import Derived.Lib.LaidU8
namespace Go.Proofs.YtdefiiadnofdpaaDoor
open Go.RowKit

theorem tabIs_of_reads {P : Program} {W : World} {name : String} {k : IntKind} {zs : List Int} {g : Nat} {t e : TypeId} {n : Nat}
    (hg : P.globalNamed name = some g) (hty : (P.globals[g]?).map (·.type) = some t) (ht : P.underlying t = some (.array n e)) (he : P.underlying e = some (.int k)) (hce : P.cellsOf e = 1) (hct : P.cellsOf t = n)
    (h : Lib.VarReads P W name (Lib.tabData k zs)) : Lib.TabIs P W name k zs := by
  obtain ⟨g', t', cs, fuel, p, hg', ht', hvar, hd⟩ := h
  obtain rfl := Option.some.inj (hg.symm.trans hg')
  obtain rfl := Option.some.inj (hty.symm.trans ht')
  unfold Lib.TabIs
  rw [hvar, ← Lib.cells_of_tab ht he hce hct hd]
theorem keysType : (Tryd.prog.globals[1]?).map (·.type) = some 55 := by kernel_rfl
theorem startType : (Tryd.prog.globals[0]?).map (·.type) = some 45 := by kernel_rfl
theorem cells64 : Tryd.prog.cellsOf 55 = 64 := by kernel_rfl
theorem cells8 : Tryd.prog.cellsOf 45 = 8 := by kernel_rfl
theorem cellsU32 : Tryd.prog.cellsOf 44 = 1 := by kernel_rfl
theorem tables_of {W : World} (h : laidMetH Tryd.prog [("loop.example/g00394/impl.roundNumbers", Lib.tabData .u32 (keysN.map fun n => ((n : Nat) : Int))), ("loop.example/g00394/impl.startNumbers", Lib.tabData .u32 firstI)] W) : KeysOk W ∧ StartOk W :=
  ⟨tabIs_of_reads gKeys keysType Tryd.underlying55 Tryd.underlying44 cellsU32 cells64 (Lib.laidMet.reads h (.head _)),
    tabIs_of_reads gStart startType Tryd.underlying45 Tryd.underlying44 cellsU32 cells8 (Lib.laidMet.reads h (.tail _ (.head _)))⟩

/-- The figures of a digest, as a text. -/
def dhB (s : ByteArray) : ByteArray := ⟨(hexL (digL s.data.toList)).toArray⟩
theorem hx_dig (s : ByteArray) : hxR (digB s) = ((hexL (digL s.data.toList)), true) := hxR_yes (by rw [digB_size]; decide)
set_option maxHeartbeats 400000 in
theorem implDigestHex_any (s : ByteArray) (w : World) (hs : s.size ≤ 1000000000) (hT : KeysOk w) (hS : StartOk w) : Calls Tryd.prog 19 #[.string s] w fun e w' => e = .returned (.string (dhB s)) ∧ Below w.heap.size w w' := by
  have HD := implDigest_any s w hs hT hS
  have HX := fun W => implHex_any (digB s) W (by rw [digB_size]; decide)
  simp only [hx_dig s] at HX
  go_enter Tryd.func19, Tryd.ntmps19
  go_wp2_with (first | (go_at_call 12; refine HD.mono ?_; rintro e w1 ⟨rfl, hb1⟩) | (go_at_call 43; refine (HX _).mono ?_; rintro e w2 ⟨rfl, hb2⟩))
  go_ret
  exact ⟨rfl, hb1.trans (hb2.mono hb1.size)⟩
end Go.Proofs.YtdefiiadnofdpaaDoor
