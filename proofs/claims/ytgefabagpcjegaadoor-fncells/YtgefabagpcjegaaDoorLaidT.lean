/- What the rows' listed variables give the walks: the program's tables of numbers lie in their variables. -/
import Derived.Test.YtgefabagpcjegaaDoorLaidV
import Derived.Test.YtgefabagpcjegaaDoorSets
namespace Go.Proofs.YtgefabagpcjegaaDoor
set_option maxRecDepth 4000
open Go.RowKit

theorem tNine : (Tryd.prog.globals[1]?).map (·.type) = some 114 := by kernel_rfl
theorem tKoi : (Tryd.prog.globals[2]?).map (·.type) = some 114 := by kernel_rfl
theorem tWin : (Tryd.prog.globals[3]?).map (·.type) = some 114 := by kernel_rfl
theorem cellsTab : Tryd.prog.cellsOf 114 = 32 := by kernel_rfl

theorem tab_of {W : World} {name : String} {g : Nat} {zs : List Int} {rest : List (String × DataW Unit)} (hl : zs.length = 32) (hg : Tryd.prog.globalNamed name = some g) (hty : (Tryd.prog.globals[g]?).map (·.type) = some 114)
    (h : laidMet Tryd.prog ((name, Lib.tabData .i64 zs) :: rest) W) : ∀ j, j < 32 → W.cell? ⟨g, j, none⟩ = some (.int .i64 (zs.getD j 0)) := fun j hj =>
  (Lib.tabIs_of_head hg hty Tryd.underlying114 Tryd.underlying3 cellsInt cellsTab h).cell hg j (by omega)

end Go.Proofs.YtgefabagpcjegaaDoor
