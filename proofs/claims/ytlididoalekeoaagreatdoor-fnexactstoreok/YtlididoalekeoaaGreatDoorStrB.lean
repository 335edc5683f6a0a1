/- Bytes as a text. -/
import Derived.Test.YtlididoalekeoaaGreatDoorPutA
namespace Go.Proofs.YtlididoalekeoaaGreatDoor
set_option maxRecDepth 4000
open Go.RowKit

def strB (b : List UInt8) : ByteArray := ⟨b.toArray⟩

end Go.Proofs.YtlididoalekeoaaGreatDoor
