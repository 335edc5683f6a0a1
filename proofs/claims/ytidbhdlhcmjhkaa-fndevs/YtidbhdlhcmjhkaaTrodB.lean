/- From the reading of a law's argument to the words of Deep: bytes. -/
import Derived.Test.YtidbhdlhcmjhkaaTrod
namespace Go.Proofs.Ytidbhdlhcmjhkaa
set_option maxRecDepth 4000
open Go.RowKit Go.ChangeShapes Go.WideShapes Go.ChangeAt

theorem rdB_trod' : RdT 22 RdB := rdB_trod Try.underlying22 Try.underlying5 (by kernel_rfl)

end Go.Proofs.Ytidbhdlhcmjhkaa
