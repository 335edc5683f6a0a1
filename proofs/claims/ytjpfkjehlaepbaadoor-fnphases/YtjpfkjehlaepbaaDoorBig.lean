/- Contract of what asks whether a code is too long. -/
import Derived.Test.YtjpfkjehlaepbaaDoorCommon
namespace Go.Proofs.YtjpfkjehlaepbaaDoor
set_option maxRecDepth 4000
open Go.RowKit

set_option maxHeartbeats 400000 in
theorem big_any (ao : Option Addr) (len cap : Nat) (w : World) : Calls Tryd.prog 6 #[.slice ao len cap] w fun e w' => e = .returned (.bool (decide (1048576 < (len : Int)))) ∧ w' = w := by
  go_enter Tryd.func6, Tryd.ntmps6
  go_wp2_with fail
  go_ret
  exact ⟨rfl, rfl⟩

end Go.Proofs.YtjpfkjehlaepbaaDoor
