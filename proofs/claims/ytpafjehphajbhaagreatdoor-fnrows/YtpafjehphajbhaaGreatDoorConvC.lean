/- The bytes of a cell, nil ones too, as a text. -/
import Derived.Test.YtpafjehphajbhaaGreatDoorDecNil
namespace Go.Proofs.YtpafjehphajbhaaGreatDoor
set_option maxRecDepth 4000
open Go.RowKit

theorem CellAt.conv {w : World} {ao : Option Addr} {n c : Nat} {bs : List UInt8} (h : CellAt w ao n c bs) : (convert 22 9 (.slice ao n c)).run Tryz.prog w = .ok (.string ⟨bs.toArray⟩) w := by
  rcases h with ⟨rfl, rfl, rfl, rfl⟩ | ⟨q, rfl, _, h3⟩
  · exact run_convert_bytes_nil w 22 5 Tryz.underlying22 Tryz.underlying5 0 0 9 Tryz.underlying9
  · exact h3.whole c

end Go.Proofs.YtpafjehphajbhaaGreatDoor
