/- Contracts of SignPair, in the program (over its table) and in the specification. -/
import Derived.Test.YtgefabagpcjegabDoorPairs
namespace Go.Proofs.YtgefabagpcjegabDoor
set_option maxRecDepth 4000
open Go.RowKit

end Go.Proofs.YtgefabagpcjegabDoor
