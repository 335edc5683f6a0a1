/- The parts of a Tab as records. -/
import Derived.Test.YtlididoalekeoaaGreatDoorTabDat
namespace Go.Proofs.YtlididoalekeoaaGreatDoor
set_option maxRecDepth 4000
open Go.RowKit

def phaseR (p : Int) : RecD := ⟨3, ⟨⟨#[]⟩, 0, [], 0, [], 0, false⟩, ⟨#[]⟩, p, 0, 0, 0⟩
def rowR (r : RowD) : RecD := ⟨1, r, ⟨#[]⟩, 0, 0, 0, 0⟩
def markR (m : MarkD) : RecD := ⟨4, ⟨⟨#[]⟩, 0, [], 0, [], 0, false⟩, ⟨#[]⟩, 0, m.who, m.seq, m.code⟩
def partsL (t : TabD) : List RecD := phaseR t.phase :: (t.rows.map rowR ++ t.marks.map markR)

end Go.Proofs.YtlididoalekeoaaGreatDoor
