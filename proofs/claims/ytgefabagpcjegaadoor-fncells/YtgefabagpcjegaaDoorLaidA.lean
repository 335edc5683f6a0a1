/- From a row's list to the tables: the pairs and the three tables of single bytes. -/
import Derived.Test.YtgefabagpcjegaaDoorLaidT
import Derived.Test.YtgefabagpcjegaaDoorLaidP
namespace Go.Proofs.YtgefabagpcjegaaDoor
set_option maxRecDepth 4000
open Go.RowKit

/-- All tables of the program lie in their variables. -/
structure AllAt (w : World) : Prop where
  tabs : TabsAt w
  pairs : PairsAt w
theorem AllAt.below {w w' : World} (h : AllAt w) (hb : Below w.heap.size w w') : AllAt w' := ⟨h.tabs.below hb, h.pairs.below hb⟩

theorem all_of {W : World} (h : laidMetH Tryd.prog Rows.fnCellsRow.laid W) : AllAt W := by
  rw [MakeChecks.laidMetH_plain _ _ _ (by kernel_rfl)] at h
  exact ⟨⟨tab_of (zs := nineT) rfl (by kernel_rfl) tNine h, tab_of (zs := koiT) rfl (by kernel_rfl) tKoi h.tail, tab_of (zs := winT) rfl (by kernel_rfl) tWin h.tail.tail⟩, pairs_head (by kernel_rfl) h.tail.tail.tail⟩

end Go.Proofs.YtgefabagpcjegaaDoor
