/- Contracts of what the laws do with a cell: its size, a copy of it, whether two are alike, and the marks of its memory. -/
import Derived.Test.YtidbhdlhcmjhkaaBlocks
import Derived.Test.YtidbhdlhcmjhkaaRowOs
namespace Go.Proofs.Ytidbhdlhcmjhkaa
set_option maxRecDepth 4000
open Go.RowKit

/-- A cell, as a value. -/
def cellV (tag : Int) (ao : Option Addr) (n c : Nat) : Value := .agg #[.int .i64 tag, .slice ao n c]

end Go.Proofs.Ytidbhdlhcmjhkaa
