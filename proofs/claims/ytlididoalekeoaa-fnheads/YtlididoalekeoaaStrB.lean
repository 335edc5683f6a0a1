/- Bytes as a text. -/
import Derived.Test.YtlididoalekeoaaBase
namespace Go.Proofs.Ytlididoalekeoaa
set_option maxRecDepth 4000
open Go.RowKit

def strB (b : List UInt8) : ByteArray := ⟨b.toArray⟩

end Go.Proofs.Ytlididoalekeoaa
