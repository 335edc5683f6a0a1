/-
  DERIVED. GIVEN WITH THE SEED: THE PROGRAM's TIES (one call each: nine closed facts by the kernel) AND EACH ROW's TIE, after the 31st guide's Derived/Test/Toyas{Tie, Card}.lean. No idea stands in it: it is a product of the set-up. Laid BY PROGRAM, IN A SANDBOX (cutbox-door.mjs). By AI agents, Wed Nov 11 2026. No macro, syntax, notation, axiom, sorry.
-/
import Derived.Test.YtlididoalekeoaaGreatDoorRows
import Derived.LaidByTextLater
import Derived.SevenTiedAt
import Derived.LaidSub
import Derived.LaidOnce
namespace Go.Proofs.YtlididoalekeoaaGreatDoor
open Go
set_option maxRecDepth 100000
theorem seatTie1 : Tryz.prog.laidByTextLater [("loop.example/g00475/impl.nineSigns", Rows.laid_loop_example_g00475_impl_nineSigns), ("loop.example/g00475/impl.koiSigns", Rows.laid_loop_example_g00475_impl_koiSigns), ("loop.example/g00475/impl.winSigns", Rows.laid_loop_example_g00475_impl_winSigns), ("loop.example/g00475/impl.pairRows", Rows.laid_loop_example_g00475_impl_pairRows)] [.data, .data, .data, .data] true :=
  Program.laidByTextLater_by_one 31 8 33 (by kernel_rfl) (by kernel_rfl) (by kernel_rfl) (by kernel_rfl) (by kernel_rfl) (by kernel_rfl) (fun _ _ => by kernel_rfl)
theorem noOwnUnsafe : Tryz.pinned.checked.prog.headLifts.contains "ownunsafe" = false := by kernel_rfl
theorem tie : Tryz.prog.laidByTextLater [("loop.example/g00475/impl.nineSigns", Rows.laid_loop_example_g00475_impl_nineSigns), ("loop.example/g00475/impl.koiSigns", Rows.laid_loop_example_g00475_impl_koiSigns), ("loop.example/g00475/impl.winSigns", Rows.laid_loop_example_g00475_impl_winSigns), ("loop.example/g00475/impl.pairRows", Rows.laid_loop_example_g00475_impl_pairRows)] [.data, .data, .data, .data] true :=
  Program.laidByTextLater.sub seatTie1 ["loop.example/g00475/impl.nineSigns", "loop.example/g00475/impl.koiSigns", "loop.example/g00475/impl.winSigns", "loop.example/g00475/impl.pairRows"] (by kernel_rfl) (by kernel_rfl)
theorem fnExactStoreOk_row_tie : Rows.fnExactStoreOkRow.laidByTextAt .later Tryz.pinned [.data, .data, .data, .data] true :=
  OpenClaim.laidByTextAt_later rfl rfl tie noOwnUnsafe
theorem fnExactStoreOkUpto_row_tie : Rows.fnExactStoreOkUptoRow.laidByTextAt .later Tryz.pinned [.data, .data, .data, .data] true :=
  OpenClaim.laidByTextAt_later rfl rfl tie noOwnUnsafe
end Go.Proofs.YtlididoalekeoaaGreatDoor
