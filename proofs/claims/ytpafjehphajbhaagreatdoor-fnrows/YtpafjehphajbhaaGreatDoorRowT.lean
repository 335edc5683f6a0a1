/- The contract of toRow, the laws' copy of a row. -/
import Derived.Test.YtpafjehphajbhaaGreatDoorRowS
namespace Go.Proofs.YtpafjehphajbhaaGreatDoor
set_option maxRecDepth 4000
open Go.RowKit

end Go.Proofs.YtpafjehphajbhaaGreatDoor
