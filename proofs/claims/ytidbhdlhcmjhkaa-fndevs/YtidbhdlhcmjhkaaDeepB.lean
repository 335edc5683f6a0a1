/- What the laws do with a list of bytes, in the words of Deep. -/
import Derived.Test.YtidbhdlhcmjhkaaDeep
import Derived.Test.YtidbhdlhcmjhkaaCellS
namespace Go.Proofs.Ytidbhdlhcmjhkaa
set_option maxRecDepth 4000
open Go.RowKit

def wtB (bs : List UInt8) : Nat := bs.length
def ctB (bs : List UInt8) : Nat := bs.length
def mkB (m : Nat) (bs : List UInt8) : List UInt8 := marks m bs.length
theorem rdB_parts {w : World} {ao : Option Addr} {len cap : Nat} {bs : List UInt8} (h : RdB w [.slice ao len cap] bs) : len ≤ maxLen ∧ Reads w ao len bs := by
  obtain ⟨_, _, _, e, hm, hr⟩ := h
  simp only [List.cons.injEq, Value.slice.injEq, and_true] at e
  obtain ⟨rfl, rfl, rfl⟩ := e
  exact ⟨hm, hr⟩
theorem owB_parts {w : World} {ao : Option Addr} {len cap : Nat} {F : Fp} {bs : List UInt8} (h : OwB w [.slice ao len cap] F bs) : (∀ x, F x → x < w.heap.size) ∧ bs.length = len ∧ ((ao = none ∧ bs = []) ∨ ∃ g, ao = some ⟨g, 0, none⟩ ∧ F g ∧ Row w g bs) := by
  obtain ⟨hF, _, _, _, e, hn, hr⟩ := h
  simp only [List.cons.injEq, Value.slice.injEq, and_true] at e
  obtain ⟨rfl, rfl, rfl⟩ := e
  exact ⟨hF, hn, hr⟩

end Go.Proofs.Ytidbhdlhcmjhkaa
