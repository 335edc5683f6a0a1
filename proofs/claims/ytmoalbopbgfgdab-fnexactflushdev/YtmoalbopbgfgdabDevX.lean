/- The program: WriteSec. -/
import Derived.Test.YtmoalbopbgfgdabDevPt
import Derived.Deep.RegionHeldLaw
namespace Go.Proofs.Ytmoalbopbgfgdab
set_option maxRecDepth 4000
open Go.RowKit

theorem opWrite (d : DevD) (n : Int) (b : List UInt8) (h : writeOn d n b = true) : writeD d n b = if opOn d.fuse = true then { d with fuse := opFuse d.fuse, down := opDown d.fuse d.down, cache := d.cache ++ [⟨n, b⟩] } else { d with fuse := opFuse d.fuse, down := opDown d.fuse d.down } := by
  unfold writeD
  rw [if_neg (by rw [h]; simp)]
  by_cases h0 : d.fuse = 0
  · rw [if_pos h0, if_neg (by simp [opOn, h0])]
    simp [opFuse, opDown, h0]
  · rw [if_neg h0, if_pos (by simp [opOn, h0])]
    simp [opFuse, opDown, h0]

end Go.Proofs.Ytmoalbopbgfgdab
