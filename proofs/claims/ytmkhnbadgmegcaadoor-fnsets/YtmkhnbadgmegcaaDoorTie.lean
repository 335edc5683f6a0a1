/-
  DERIVED. GIVEN WITH THE SEED: THE PROGRAM's TIES (one call each: nine closed facts by the kernel) AND EACH ROW's TIE, after the 31st guide's Derived/Test/Toyas{Tie, Card}.lean. No idea stands in it: it is a product of the set-up. Laid BY PROGRAM, IN A SANDBOX (cutbox-door.mjs). By AI agents, Wed Nov 11 2026. No macro, syntax, notation, axiom, sorry.
-/
import Derived.Test.YtmkhnbadgmegcaaDoorRows
import Derived.LaidByTextLater
import Derived.SevenTiedAt
import Derived.LaidSub
import Derived.LaidOnce
namespace Go.Proofs.YtmkhnbadgmegcaaDoor
open Go
set_option maxRecDepth 100000
theorem seatTie1 : Tryd.prog.laidByTextLater [("loop.example/g00475/impl.csNames", Rows.laid_loop_example_g00475_impl_csNames), ("loop.example/g00475/impl.nineSigns", Rows.laid_loop_example_g00475_impl_nineSigns), ("loop.example/g00475/impl.koiSigns", Rows.laid_loop_example_g00475_impl_koiSigns), ("loop.example/g00475/impl.winSigns", Rows.laid_loop_example_g00475_impl_winSigns)] [.data, .data, .data, .data] true :=
  Program.laidByTextLater_by_one 29 8 33 (by kernel_rfl) (by kernel_rfl) (by kernel_rfl) (by kernel_rfl) (by kernel_rfl) (by kernel_rfl) (fun _ _ => by kernel_rfl)
theorem noOwnUnsafe : Tryd.pinned.checked.prog.headLifts.contains "ownunsafe" = false := by kernel_rfl
theorem tie : Tryd.prog.laidByTextLater [("loop.example/g00475/impl.csNames", Rows.laid_loop_example_g00475_impl_csNames), ("loop.example/g00475/impl.nineSigns", Rows.laid_loop_example_g00475_impl_nineSigns), ("loop.example/g00475/impl.koiSigns", Rows.laid_loop_example_g00475_impl_koiSigns), ("loop.example/g00475/impl.winSigns", Rows.laid_loop_example_g00475_impl_winSigns)] [.data, .data, .data, .data] true :=
  Program.laidByTextLater.sub seatTie1 ["loop.example/g00475/impl.csNames", "loop.example/g00475/impl.nineSigns", "loop.example/g00475/impl.koiSigns", "loop.example/g00475/impl.winSigns"] (by kernel_rfl) (by kernel_rfl)
theorem fnSets_row_tie : Rows.fnSetsRow.laidByTextAt .later Tryd.pinned [.data, .data, .data, .data] true :=
  OpenClaim.laidByTextAt_later rfl rfl tie noOwnUnsafe
theorem tie2 : Tryd.prog.laidByTextLater [("loop.example/g00475/impl.csNames", Rows.laid_loop_example_g00475_impl_csNames)] [.data] true :=
  Program.laidByTextLater.sub seatTie1 ["loop.example/g00475/impl.csNames"] (by kernel_rfl) (by kernel_rfl)
theorem fnExactCsName_row_tie : Rows.fnExactCsNameRow.laidByTextAt .later Tryd.pinned [.data] true :=
  OpenClaim.laidByTextAt_later rfl rfl tie2 noOwnUnsafe
theorem fnExactCsOf_row_tie : Rows.fnExactCsOfRow.laidByTextAt .later Tryd.pinned [.data] true :=
  OpenClaim.laidByTextAt_later rfl rfl tie2 noOwnUnsafe
theorem tie3 : Tryd.prog.laidByTextLater [("loop.example/g00475/impl.nineSigns", Rows.laid_loop_example_g00475_impl_nineSigns), ("loop.example/g00475/impl.koiSigns", Rows.laid_loop_example_g00475_impl_koiSigns), ("loop.example/g00475/impl.winSigns", Rows.laid_loop_example_g00475_impl_winSigns)] [.data, .data, .data] true :=
  Program.laidByTextLater.sub seatTie1 ["loop.example/g00475/impl.nineSigns", "loop.example/g00475/impl.koiSigns", "loop.example/g00475/impl.winSigns"] (by kernel_rfl) (by kernel_rfl)
theorem fnExactByteSign_row_tie : Rows.fnExactByteSignRow.laidByTextAt .later Tryd.pinned [.data, .data, .data] true :=
  OpenClaim.laidByTextAt_later rfl rfl tie3 noOwnUnsafe
theorem fnExactSignByte_row_tie : Rows.fnExactSignByteRow.laidByTextAt .later Tryd.pinned [.data, .data, .data] true :=
  OpenClaim.laidByTextAt_later rfl rfl tie3 noOwnUnsafe
theorem fnSetsUpto_row_tie : Rows.fnSetsUptoRow.laidByTextAt .later Tryd.pinned [.data, .data, .data, .data] true :=
  OpenClaim.laidByTextAt_later rfl rfl tie noOwnUnsafe
theorem fnExactCsNameUpto_row_tie : Rows.fnExactCsNameUptoRow.laidByTextAt .later Tryd.pinned [.data] true :=
  OpenClaim.laidByTextAt_later rfl rfl tie2 noOwnUnsafe
theorem fnExactCsOfUpto_row_tie : Rows.fnExactCsOfUptoRow.laidByTextAt .later Tryd.pinned [.data] true :=
  OpenClaim.laidByTextAt_later rfl rfl tie2 noOwnUnsafe
theorem fnExactByteSignUpto_row_tie : Rows.fnExactByteSignUptoRow.laidByTextAt .later Tryd.pinned [.data, .data, .data] true :=
  OpenClaim.laidByTextAt_later rfl rfl tie3 noOwnUnsafe
theorem fnExactSignByteUpto_row_tie : Rows.fnExactSignByteUptoRow.laidByTextAt .later Tryd.pinned [.data, .data, .data] true :=
  OpenClaim.laidByTextAt_later rfl rfl tie3 noOwnUnsafe
end Go.Proofs.YtmkhnbadgmegcaaDoor
