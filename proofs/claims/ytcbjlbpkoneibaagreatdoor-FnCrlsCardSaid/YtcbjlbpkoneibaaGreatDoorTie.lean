/-
  DERIVED. GIVEN WITH THE SEED: THE PROGRAM's TIES (one call each: nine closed facts by the kernel) AND EACH ROW's TIE, after the 31st guide's Derived/Test/Toyas{Tie, Card}.lean. No idea stands in it: it is a product of the set-up. Laid BY PROGRAM, IN A SANDBOX (cutbox-door.mjs). By AI agents, Wed Nov 11 2026. No macro, syntax, notation, axiom, sorry.
-/
import Derived.Test.YtcbjlbpkoneibaaGreatDoorRows
import Derived.LaidByTextLater
import Derived.SevenTiedAt
import Derived.LaidSub
import Derived.LaidOnce
namespace Go.Proofs.YtcbjlbpkoneibaaGreatDoor
open Go
set_option maxRecDepth 100000
theorem seatTie1 : Tryz.prog.laidByTextLater [("loop.example/g00394/impl.roundNumbers", Rows.laid_loop_example_g00394_impl_roundNumbers), ("loop.example/g00394/impl.startNumbers", Rows.laid_loop_example_g00394_impl_startNumbers), ("loop.example/g00394/impl.houses", Rows.laid_loop_example_g00394_impl_houses)] [.data, .data, .data] true :=
  Program.laidByTextLater_by_one 30 8 65 (by kernel_rfl) (by kernel_rfl) (by kernel_rfl) (by kernel_rfl) (by kernel_rfl) (by kernel_rfl) (fun _ _ => by kernel_rfl)
theorem noOwnUnsafe : Tryz.pinned.checked.prog.headLifts.contains "ownunsafe" = false := by kernel_rfl
theorem tie : Tryz.prog.laidByTextLater [("loop.example/g00394/impl.roundNumbers", Rows.laid_loop_example_g00394_impl_roundNumbers), ("loop.example/g00394/impl.startNumbers", Rows.laid_loop_example_g00394_impl_startNumbers), ("loop.example/g00394/impl.houses", Rows.laid_loop_example_g00394_impl_houses)] [.data, .data, .data] true :=
  Program.laidByTextLater.sub seatTie1 ["loop.example/g00394/impl.roundNumbers", "loop.example/g00394/impl.startNumbers", "loop.example/g00394/impl.houses"] (by kernel_rfl) (by kernel_rfl)
theorem fnCrls_row_tie : Rows.fnCrlsRow.laidByTextAt .later Tryz.pinned [.data, .data, .data] true :=
  OpenClaim.laidByTextAt_later rfl rfl tie noOwnUnsafe
theorem fnCrlsUpto_row_tie : Rows.fnCrlsUptoRow.laidByTextAt .later Tryz.pinned [.data, .data, .data] true :=
  OpenClaim.laidByTextAt_later rfl rfl tie noOwnUnsafe
end Go.Proofs.YtcbjlbpkoneibaaGreatDoor
