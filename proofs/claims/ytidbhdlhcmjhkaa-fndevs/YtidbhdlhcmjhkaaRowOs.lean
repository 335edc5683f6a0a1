/- A slice of bytes that may be nil: what it holds, and the marks of its memory. -/
import Derived.Test.YtidbhdlhcmjhkaaCommon
namespace Go.Proofs.Ytidbhdlhcmjhkaa
set_option maxRecDepth 4000
open Go.RowKit

/-- A slice that is nil, or the row of block g. -/
def RowO (w : World) (ao : Option Addr) (g : Nat) (bs : List UInt8) : Prop := (ao = none ∧ bs = []) ∨ (ao = some ⟨g, 0, none⟩ ∧ Row w g bs)
theorem RowO.reads {w : World} {ao : Option Addr} {g n : Nat} {bs : List UInt8} (h : RowO w ao g bs) (hn : bs.length = n) : Reads w ao n bs := by
  rcases h with ⟨rfl, rfl⟩ | ⟨rfl, hR⟩
  · exact ⟨hn, .inl (by simpa using hn.symm)⟩
  · exact hR.reads hn
theorem RowO.below {w w' : World} {ao : Option Addr} {g : Nat} {bs : List UInt8} (h : RowO w ao g bs) (hB : Below w.heap.size w w') : RowO w' ao g bs := by
  rcases h with h | ⟨h, hR⟩
  · exact .inl h
  · exact .inr ⟨h, hR.below hB⟩
theorem RowO.grown {w w' : World} {ao : Option Addr} {g k : Nat} {bs : List UInt8} (h : RowO w ao g bs) (hG : w.grownBy w' (some k)) (hg : g ≠ k) : RowO w' ao g bs := by
  rcases h with h | ⟨h, hR⟩
  · exact .inl h
  · exact .inr ⟨h, hR.grown hG hg⟩

end Go.Proofs.Ytidbhdlhcmjhkaa
