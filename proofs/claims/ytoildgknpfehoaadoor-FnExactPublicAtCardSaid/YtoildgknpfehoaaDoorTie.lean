/-
  DERIVED. GIVEN WITH THE SEED: THE PROGRAM's TIES (one call each: nine closed facts by the kernel) AND EACH ROW's TIE, after the 31st guide's Derived/Test/Toyas{Tie, Card}.lean. No idea stands in it: it is a product of the set-up. Laid BY PROGRAM, IN A SANDBOX (cutbox-door.mjs). By AI agents, Wed Nov 11 2026. No macro, syntax, notation, axiom, sorry.
-/
import Derived.Test.YtoildgknpfehoaaDoorRows
import Derived.LaidByTextLater
import Derived.SevenTiedAt
import Derived.LaidSub
import Derived.LaidOnce
namespace Go.Proofs.YtoildgknpfehoaaDoor
open Go
set_option maxRecDepth 100000
theorem seatTie1 : Tryd.prog.laidByTextLater [("loop.example/g00394/impl.roundNumbers", Rows.laid_loop_example_g00394_impl_roundNumbers), ("loop.example/g00394/impl.startNumbers", Rows.laid_loop_example_g00394_impl_startNumbers), ("loop.example/g00394/impl.houses", Rows.laid_loop_example_g00394_impl_houses)] [.data, .data, .data] true :=
  Program.laidByTextLater_by_one 30 8 65 (by kernel_rfl) (by kernel_rfl) (by kernel_rfl) (by kernel_rfl) (by kernel_rfl) (by kernel_rfl) (fun _ _ => by kernel_rfl)
theorem noOwnUnsafe : Tryd.pinned.checked.prog.headLifts.contains "ownunsafe" = false := by kernel_rfl
theorem tie : Tryd.prog.laidByTextLater [("loop.example/g00394/impl.houses", Rows.laid_loop_example_g00394_impl_houses)] [.data] true :=
  Program.laidByTextLater.sub seatTie1 ["loop.example/g00394/impl.houses"] (by kernel_rfl) (by kernel_rfl)
theorem fnExactPublicAt_row_tie : Rows.fnExactPublicAtRow.laidByTextAt .later Tryd.pinned [.data] true :=
  OpenClaim.laidByTextAt_later rfl rfl tie noOwnUnsafe
theorem fnExactSecretAt_row_tie : Rows.fnExactSecretAtRow.laidByTextAt .later Tryd.pinned [.data] true :=
  OpenClaim.laidByTextAt_later rfl rfl tie noOwnUnsafe
theorem tie2 : Tryd.prog.laidByTextLater [("loop.example/g00394/impl.roundNumbers", Rows.laid_loop_example_g00394_impl_roundNumbers), ("loop.example/g00394/impl.startNumbers", Rows.laid_loop_example_g00394_impl_startNumbers)] [.data, .data] true :=
  Program.laidByTextLater.sub seatTie1 ["loop.example/g00394/impl.roundNumbers", "loop.example/g00394/impl.startNumbers"] (by kernel_rfl) (by kernel_rfl)
theorem fnExactPadded_row_tie : Rows.fnExactPaddedRow.laidByTextAt .later Tryd.pinned [.data, .data] true :=
  OpenClaim.laidByTextAt_later rfl rfl tie2 noOwnUnsafe
theorem fnExactSigOk_row_tie : Rows.fnExactSigOkRow.laidByTextAt .later Tryd.pinned [.data, .data] true :=
  OpenClaim.laidByTextAt_later rfl rfl tie2 noOwnUnsafe
theorem tie3 : Tryd.prog.laidByTextLater [("loop.example/g00394/impl.roundNumbers", Rows.laid_loop_example_g00394_impl_roundNumbers), ("loop.example/g00394/impl.startNumbers", Rows.laid_loop_example_g00394_impl_startNumbers), ("loop.example/g00394/impl.houses", Rows.laid_loop_example_g00394_impl_houses)] [.data, .data, .data] true :=
  Program.laidByTextLater.sub seatTie1 ["loop.example/g00394/impl.roundNumbers", "loop.example/g00394/impl.startNumbers", "loop.example/g00394/impl.houses"] (by kernel_rfl) (by kernel_rfl)
theorem fnExactSignWith_row_tie : Rows.fnExactSignWithRow.laidByTextAt .later Tryd.pinned [.data, .data, .data] true :=
  OpenClaim.laidByTextAt_later rfl rfl tie3 noOwnUnsafe
theorem fnExactPublicAtUpto_row_tie : Rows.fnExactPublicAtUptoRow.laidByTextAt .later Tryd.pinned [.data] true :=
  OpenClaim.laidByTextAt_later rfl rfl tie noOwnUnsafe
theorem fnExactSecretAtUpto_row_tie : Rows.fnExactSecretAtUptoRow.laidByTextAt .later Tryd.pinned [.data] true :=
  OpenClaim.laidByTextAt_later rfl rfl tie noOwnUnsafe
theorem fnExactPaddedUpto_row_tie : Rows.fnExactPaddedUptoRow.laidByTextAt .later Tryd.pinned [.data, .data] true :=
  OpenClaim.laidByTextAt_later rfl rfl tie2 noOwnUnsafe
theorem fnExactSignWithUpto_row_tie : Rows.fnExactSignWithUptoRow.laidByTextAt .later Tryd.pinned [.data, .data, .data] true :=
  OpenClaim.laidByTextAt_later rfl rfl tie3 noOwnUnsafe
theorem fnExactSigOkUpto_row_tie : Rows.fnExactSigOkUptoRow.laidByTextAt .later Tryd.pinned [.data, .data] true :=
  OpenClaim.laidByTextAt_later rfl rfl tie2 noOwnUnsafe
end Go.Proofs.YtoildgknpfehoaaDoor
