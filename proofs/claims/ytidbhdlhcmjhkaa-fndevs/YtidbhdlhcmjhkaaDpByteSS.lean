/- What the laws do with a list of ByteS. -/
import Derived.Test.YtidbhdlhcmjhkaaDeepB
import Derived.Deep.RegionHeld3
namespace Go.Proofs.Ytidbhdlhcmjhkaa
set_option maxRecDepth 4000
open Go.RowKit

abbrev RdByteSS : Rd (List (List UInt8)) := RdS 1 RdB
abbrev OwByteSS : Ow (List (List UInt8)) := OwS 1 22 OwB
theorem rdByteSS_ok : RdOk 1 RdByteSS := rdS_ok rdB_ok
theorem owByteSS_ok : OwOk 1 OwByteSS RdByteSS := owS_ok owB_ok
abbrev wtByteSS : List (List UInt8) → Nat := wtS wtB
abbrev ctByteSS : List (List UInt8) → Nat := ctS ctB
abbrev mkByteSS (m : Nat) : List (List UInt8) → List (List UInt8) := mkS mkB ctB m

theorem rdByteSS_parts {w : World} {ao : Option Addr} {len cap : Nat} {ls : List (List UInt8)} (h : RdByteSS w [.slice ao len cap] ls) : len ≤ maxLen ∧ ls.length = len ∧ (ls = [] ∨ ∃ b off, ao = some ⟨b, off, none⟩ ∧ ∀ j a, ls[j]? = some a → ∃ c, c.length = 1 ∧ RdB w c a ∧ ∀ i v, c[i]? = some v → w.cell? ⟨b, off + j * 1 + i, none⟩ = some v) := by
  obtain ⟨_, _, _, e, hm, hl, h⟩ := h
  simp only [List.cons.injEq, Value.slice.injEq, and_true] at e
  obtain ⟨rfl, rfl, rfl⟩ := e
  exact ⟨hm, hl, h⟩

theorem infoByteSS : (Try.prog.info? 22).map (fun i => (i.zero, i.size, i.bytes)) = some (some (.slice none 0 0), 1, 24) := by kernel_rfl

end Go.Proofs.Ytidbhdlhcmjhkaa
