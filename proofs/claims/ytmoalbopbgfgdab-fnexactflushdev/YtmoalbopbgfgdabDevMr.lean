/- The program: ReadSec. -/
import Derived.Test.YtmoalbopbgfgdabDevMp
import Derived.Test.YtmoalbopbgfgdabExact
namespace Go.Proofs.Ytmoalbopbgfgdab
set_option maxRecDepth 4000
open Go.RowKit Go.Maps

theorem elem_of {v u : Value} {X : DataW Value} {ps : List MemPlace} (h : wrElem v = some (X, ps)) (hX : X = .held u) : v = u := by
  subst hX
  simp only [wrElem, Option.some.injEq, Prod.mk.injEq, DataW.held.injEq] at h
  exact h.1
theorem New.low {B C : Nat} {E : Ow (List UInt8)} {w : World} {cs : List Value} {a : List UInt8} (h : New B E w cs a) (hC : C ≤ B) : New C E w cs a := by
  obtain ⟨F, h1, h2⟩ := h
  exact ⟨F, h1, fun x hx => Nat.le_trans hC (h2 x hx)⟩

end Go.Proofs.Ytmoalbopbgfgdab
