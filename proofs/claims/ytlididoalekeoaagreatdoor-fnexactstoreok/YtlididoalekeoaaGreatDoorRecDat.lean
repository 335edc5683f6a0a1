/- A record. -/
import Derived.Test.YtlididoalekeoaaGreatDoorRowDat
namespace Go.Proofs.YtlididoalekeoaaGreatDoor
set_option maxRecDepth 4000
open Go.RowKit

/-- A record. -/
structure RecD where
  kind : Int
  r : RowD
  key : ByteArray
  n : Int
  who : Int
  seq : Int
  code : Int
def zeroRec : RecD := ⟨0, zeroRow, ⟨#[]⟩, 0, 0, 0, 0⟩

end Go.Proofs.YtlididoalekeoaaGreatDoor
