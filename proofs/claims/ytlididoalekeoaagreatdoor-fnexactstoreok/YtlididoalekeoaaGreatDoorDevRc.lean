/- A Dev in the words of deep2's structs: what is copied reads as all else. -/
import Derived.Test.YtlididoalekeoaaGreatDoorDpDev
namespace Go.Proofs.YtlididoalekeoaaGreatDoor
set_option maxRecDepth 4000
open Go.RowKit

abbrev RcDev : Rd DevD := RdDev
theorem rcDev_ok : RdOk 4 RcDev := rdDev_ok
theorem rcDev_w {w : World} {cs : List Value} {a : DevD} (h : RcDev w cs a) : RdDev w cs a := h
theorem infoDev : (Tryz.prog.info? 36).map (·.size) = some 4 := by kernel_rfl

end Go.Proofs.YtlididoalekeoaaGreatDoor
