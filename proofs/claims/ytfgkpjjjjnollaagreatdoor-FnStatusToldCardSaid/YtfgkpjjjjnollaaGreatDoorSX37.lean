/-
  Texts of the proof, one behind the other: DigT, CutI, SgD.
-/
import Derived.Lib.LaidU8
import Derived.Test.YtfgkpjjjjnollaaGreatDoorSX36

/-
  The two tables as a row lists them; the figures of a digest, the program's and the specification's.
-/
namespace Go.Proofs.YtfgkpjjjjnollaaGreatDoor
open Go.RowKit

theorem tabIs_of_reads {P : Program} {W : World} {name : String} {k : IntKind} {zs : List Int} {g : Nat} {t e : TypeId} {n : Nat}
    (hg : P.globalNamed name = some g) (hty : (P.globals[g]?).map (·.type) = some t) (ht : P.underlying t = some (.array n e)) (he : P.underlying e = some (.int k)) (hce : P.cellsOf e = 1) (hct : P.cellsOf t = n)
    (h : Lib.VarReads P W name (Lib.tabData k zs)) : Lib.TabIs P W name k zs := by
  obtain ⟨g', t', cs, fuel, p, hg', ht', hvar, hd⟩ := h
  obtain rfl := Option.some.inj (hg.symm.trans hg')
  obtain rfl := Option.some.inj (hty.symm.trans ht')
  unfold Lib.TabIs
  rw [hvar, ← Lib.cells_of_tab ht he hce hct hd]
theorem keysType : (Tryz.prog.globals[2]?).map (·.type) = some 261 := by kernel_rfl
theorem startType : (Tryz.prog.globals[1]?).map (·.type) = some 259 := by kernel_rfl
theorem cells64 : Tryz.prog.cellsOf 261 = 64 := by kernel_rfl
theorem cells8D : Tryz.prog.cellsOf 259 = 8 := by kernel_rfl
theorem cellsU32 : Tryz.prog.cellsOf 258 = 1 := by kernel_rfl
theorem tables_of {W : World} (h : laidMetH Tryz.prog [("loop.example/g00394/impl.roundNumbers", Lib.tabData .u32 (keysN.map fun n => ((n : Nat) : Int))), ("loop.example/g00394/impl.startNumbers", Lib.tabData .u32 firstI)] W) : KeysOk W ∧ StartOk W :=
  ⟨tabIs_of_reads gKeys keysType Tryz.underlying261 Tryz.underlying258 cellsU32 cells64 (Lib.laidMet.reads h (.head _)),
    tabIs_of_reads gStart startType Tryz.underlying259 Tryz.underlying258 cellsU32 cells8D (Lib.laidMet.reads h (.tail _ (.head _)))⟩

end Go.Proofs.YtfgkpjjjjnollaaGreatDoor

/-
  The program's CutDigest.
-/
namespace Go.Proofs.YtfgkpjjjjnollaaGreatDoor
open Go.RowKit

/-- What CutDigest answers. -/
def cutB (s : ByteArray) (n : Int) : ByteArray := if 1 ≤ n ∧ n ≤ 32 then (digB s).extract 0 n.toNat else ⟨#[]⟩
theorem cutB_no {s : ByteArray} {n : Int} (h : ¬ (1 ≤ n ∧ n ≤ 32)) : cutB s n = ⟨#[]⟩ := by unfold cutB; rw [if_neg h]
theorem cutB_yes {s : ByteArray} {n : Nat} (h : 1 ≤ (n : Int) ∧ (n : Int) ≤ 32) : cutB s (n : Int) = (digB s).extract 0 n := by unfold cutB; rw [if_pos h, Int.toNat_natCast]
set_option maxHeartbeats 400000 in
theorem implCut_any (s : ByteArray) (n : Int) (w : World) (hs : s.size ≤ 1000000000) (hT : KeysOk w) (hS : StartOk w) : Calls Tryz.prog 192 #[.string s, .int .i64 n] w fun e w' => e = .returned (.string (cutB s n)) ∧ Below w.heap.size w w' := by
  by_cases h : 1 ≤ n ∧ n ≤ 32
  · obtain ⟨m, rfl⟩ := Int.eq_ofNat_of_zero_le (show 0 ≤ n by omega)
    rw [cutB_yes h]
    have HD := implDigest_any s w hs hT hS
    have hz := digB_size s
    obtain ⟨h1, h2⟩ := h
    have h3 : ¬ (m : Int) < 1 := by omega
    have h4 : ¬ (32 : Int) < (m : Int) := by omega
    clear hT hS
    go_enter Tryz.func192, Tryz.ntmps192
    go_wp2_with fail
    refine HD.mono ?_
    rintro e w2 ⟨rfl, hb2⟩
    go_wp2_with fail
    go_ret
    exact ⟨rfl, hb2⟩
  · rw [cutB_no h]
    clear hT hS
    by_cases h3 : n < 1
    · go_enter Tryz.func192, Tryz.ntmps192
      go_wp2_with fail
      go_ret
      exact ⟨rfl, Below.refl _ _⟩
    · have h4 : (32 : Int) < n := by omega
      go_enter Tryz.func192, Tryz.ntmps192
      go_wp2_with fail
      go_ret
      exact ⟨rfl, Below.refl _ _⟩
end Go.Proofs.YtfgkpjjjjnollaaGreatDoor

/-
  Padded, the program's and the specification's.
-/
namespace Go.Proofs.YtfgkpjjjjnollaaGreatDoor
open Go.RowKit

/-- What Padded answers. -/
def aheadB : ByteArray := ⟨#[0, 1, 255, 255, 255, 255, 255, 255, 0]⟩
def pddB (s : ByteArray) : ByteArray := aheadB ++ (digB s).extract 0 6
theorem pddB_size (s : ByteArray) : (pddB s).size = 15 := by
  unfold pddB
  rw [ByteArray.size_append, ByteArray.size_extract, digB_size]
  rfl
set_option maxHeartbeats 800000 in
set_option maxRecDepth 100000 in
theorem implPadded_any (s : ByteArray) (w : World) (hs : s.size ≤ 1000000000) (hT : KeysOk w) (hS : StartOk w) : Calls Tryz.prog 109 #[.string s] w fun e w' => e = .returned (.string (pddB s)) ∧ Below w.heap.size w w' := by
  have E := implCut_any s 6 w hs hT hS
  rw [show cutB s 6 = (digB s).extract 0 6 from if_pos (by decide)] at E
  have HN : Hid (pddB s = aheadB ++ (digB s).extract 0 6 ∧ ((digB s).extract 0 6).size = 6) := ⟨rfl, by rw [ByteArray.size_extract, digB_size]; rfl⟩
  clear hT hS
  generalize (digB s).extract 0 6 = D at *
  have hD : D.size = 6 := HN.out.2
  go_enter Tryz.func109, Tryz.ntmps109
  go_wp2_with fail
  refine E.mono ?_
  rintro e w1 ⟨rfl, hb1⟩
  have H1 : Hid (Below w.heap.size w w1) := hb1
  clear hb1 E
  go_wp2_with fail
  go_ret
  exact ⟨by rw [HN.out.1]; rfl, H1.out⟩

set_option maxHeartbeats 800000 in
set_option maxRecDepth 100000 in
theorem specPadded_any (s : ByteArray) (w : World) (hs : s.size ≤ 1000000000) : Calls Tryz.prog 185 #[.string s] w fun e w' => e = .returned (.string (pddB s)) ∧ Below w.heap.size w w' := by
  have E := specDigest_any s w hs
  have HN : Hid (pddB s = aheadB ++ (digB s).extract 0 6 ∧ ((digB s).extract 0 6).size = 6) := ⟨rfl, by rw [ByteArray.size_extract, digB_size]; rfl⟩
  have hz := digB_size s
  have hD : ((digB s).extract 0 6).size = 6 := HN.out.2
  generalize digB s = D at *
  go_enter Tryz.func185, Tryz.ntmps185
  go_wp2_with fail
  refine E.mono ?_
  rintro e w1 ⟨rfl, hb1⟩
  have H1 : Hid (Below w.heap.size w w1) := hb1
  clear hb1 E
  go_wp2_with fail
  go_ret
  exact ⟨by rw [HN.out.1]; rfl, H1.out⟩
end Go.Proofs.YtfgkpjjjjnollaaGreatDoor
