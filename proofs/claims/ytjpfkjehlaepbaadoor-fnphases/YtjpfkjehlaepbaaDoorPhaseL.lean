/- What the rows' listed variable gives the walks: the names of the phases lie in their variable. -/
import Derived.Test.YtjpfkjehlaepbaaDoorLaidV
import Derived.Test.YtjpfkjehlaepbaaDoorPhaseM
namespace Go.Proofs.YtjpfkjehlaepbaaDoor
set_option maxRecDepth 4000
open Go.RowKit

theorem tPhases : (Tryd.prog.globals[0]?).map (·.type) = some 40 := by kernel_rfl
theorem cellsPhases : Tryd.prog.cellsOf 40 = 8 := by kernel_rfl
theorem cellsStr : Tryd.prog.cellsOf 9 = 1 := by kernel_rfl

theorem phases_of {W : World} {name : String} {rest : List (String × DataW Unit)} (gPhases : Tryd.prog.globalNamed name = some 0) (h : laidMet Tryd.prog ((name, Rows.laid_loop_example_g00475_impl_phaseNames) :: rest) W) : PhAt W := by
  obtain ⟨ps, ⟨g', t', cs, fuel, p, q, hg', ht', hvar, hd, _, _⟩, _⟩ := h
  obtain rfl := Option.some.inj (gPhases.symm.trans hg')
  obtain rfl := Option.some.inj (tPhases.symm.trans ht')
  have hd' : DataW.trod (fun _ => ()) Tryd.prog W 0 (fun _ => true) false fuel 40 cs.toList = some (.agg (phNames.map fun z => .lit (.string z.data.toList)), p) := hd
  have e := cells_of_strs Tryd.underlying40 Tryd.underlying9 cellsStr cellsPhases hd'
  refine ⟨fun j hj => ?_⟩
  have h1 := World.var?_cell hg' hvar j
  rw [h1, ← Array.getElem?_toList, e]
  have hl : j < phNames.length := hj
  simp [List.getD, List.getElem?_eq_getElem hl]

theorem phs_of {W : World} (h : laidMetH Tryd.prog Rows.fnPhasesRow.laid W) : PhAt W := by
  rw [MakeChecks.laidMetH_plain _ _ _ (by kernel_rfl)] at h
  exact phases_of (by kernel_rfl) h

end Go.Proofs.YtjpfkjehlaepbaaDoor
