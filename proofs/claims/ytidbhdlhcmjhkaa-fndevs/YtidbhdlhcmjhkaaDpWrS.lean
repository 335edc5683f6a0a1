/- What the laws do with a list of Wr. -/
import Derived.Test.YtidbhdlhcmjhkaaDeepB
import Derived.Test.YtidbhdlhcmjhkaaDpWr
import Derived.Deep.RegionHeld3
namespace Go.Proofs.Ytidbhdlhcmjhkaa
set_option maxRecDepth 4000
open Go.RowKit

abbrev RdWrS : Rd (List WrD) := RdS 2 RdWr
abbrev OwWrS : Ow (List WrD) := OwS 2 35 OwWr
theorem rdWrS_ok : RdOk 1 RdWrS := rdS_ok rdWr_ok
theorem owWrS_ok : OwOk 1 OwWrS RdWrS := owS_ok owWr_ok
abbrev wtWrS : List WrD → Nat := wtS wtWr
abbrev ctWrS : List WrD → Nat := ctS ctWr
abbrev mkWrS (m : Nat) : List WrD → List WrD := mkS mkWr ctWr m

theorem rdWrS_parts {w : World} {ao : Option Addr} {len cap : Nat} {ls : List WrD} (h : RdWrS w [.slice ao len cap] ls) : len ≤ maxLen ∧ ls.length = len ∧ (ls = [] ∨ ∃ b off, ao = some ⟨b, off, none⟩ ∧ ∀ j a, ls[j]? = some a → ∃ c, c.length = 2 ∧ RdWr w c a ∧ ∀ i v, c[i]? = some v → w.cell? ⟨b, off + j * 2 + i, none⟩ = some v) := by
  obtain ⟨_, _, _, e, hm, hl, h⟩ := h
  simp only [List.cons.injEq, Value.slice.injEq, and_true] at e
  obtain ⟨rfl, rfl, rfl⟩ := e
  exact ⟨hm, hl, h⟩

theorem infoWrS : (Try.prog.info? 35).map (fun i => (i.zero, i.size, i.bytes)) = some (some (.agg #[.int .i64 0, .slice none 0 0]), 2, 32) := by kernel_rfl
theorem owWr_zero (w : World) : OwWr w [.int .i64 0, .slice none 0 0] (fun _ => False) (⟨0, []⟩ : WrD) := ⟨none, 0, 0, (fun _ => False), rfl, owB_nil w, fun x => by simp⟩

end Go.Proofs.Ytidbhdlhcmjhkaa
