/- Contract of what asks whether a code is too long. -/
import Derived.Test.YtejlellhoamjgaaDoorCommon
namespace Go.Proofs.YtejlellhoamjgaaDoor
open Go.RowKit

set_option maxHeartbeats 400000 in
theorem big_any (ao : Option Addr) (len cap : Nat) (w : World) : Calls Tryd.prog 6 #[.slice ao len cap] w fun e w' => e = .returned (.bool (decide (1048576 < (len : Int)))) ∧ w' = w := by
  go_enter Tryd.func6, Tryd.ntmps6
  go_wp2_with fail
  go_ret
  exact ⟨rfl, rfl⟩

end Go.Proofs.YtejlellhoamjgaaDoor
