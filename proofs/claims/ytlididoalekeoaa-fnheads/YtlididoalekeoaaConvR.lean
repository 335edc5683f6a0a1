/- Bytes that are read, as a text. -/
import Derived.Test.YtlididoalekeoaaStrB
import Derived.Test.YtlididoalekeoaaDeep
namespace Go.Proofs.Ytlididoalekeoaa
set_option maxRecDepth 4000
open Go.RowKit

theorem Reads.conv {w : World} {ao : Option Addr} {len : Nat} {bs : List UInt8} (h : Reads w ao len bs) (c : Nat) : (convert 22 9 (.slice ao len c)).run Try.prog w = .ok (.string (strB bs)) w := by
  obtain ⟨hl, h⟩ := h
  rcases h with h0 | ⟨b, off, rfl, hc⟩
  · subst h0
    obtain rfl : bs = [] := List.eq_nil_of_length_eq_zero hl
    cases ao with
    | none => exact run_convert_bytes_nil w 22 5 Try.underlying22 Try.underlying5 0 c 9 Try.underlying9
    | some a =>
      have := run_convert_bytes_back (P := Try.prog) w 22 9 5 a c ([] : List UInt8) Try.underlying22 Try.underlying5 Try.underlying9 (fun j hj => by simp at hj)
      exact this
  · have := run_convert_bytes_back (P := Try.prog) w 22 9 5 ⟨b, off, none⟩ c bs Try.underlying22 Try.underlying5 Try.underlying9 (fun j hj => by
      rw [Addr.add_lit, hc j (by omega)]
      simp [List.getD, List.getElem?_eq_getElem hj])
    rw [hl] at this; exact this
theorem Reads.conv_eq {w : World} {ao : Option Addr} {len : Nat} {bs : List UInt8} {S : ByteArray} (h : Reads w ao len bs) (c : Nat) (e : strB bs = S) : (convert 22 9 (.slice ao len c)).run Try.prog w = .ok (.string S) w := by
  rw [← e]; exact h.conv c
/-- bytes.Equal: as the two texts. -/
theorem equalB_is (v1 v2 : Value) (l1 l2 : List UInt8) (b : Bool) (w : World) (hb : Hd ((l1 == l2) = b)) (h1 : (convert 22 9 v1).run Try.prog w = .ok (.string (strB l1)) w) (h2 : (convert 22 9 v2).run Try.prog w = .ok (.string (strB l2)) w) :
    Calls Try.prog 58 #[v1, v2] w fun e w' => e = .returned (.bool b) ∧ w = w' := by
  have h3 : (convert 22 9 v1).run Try.prog w = .ok (.string ⟨l1.toArray⟩) w := h1
  have h4 : (convert 22 9 v2).run Try.prog w = .ok (.string ⟨l2.toArray⟩) w := h2
  clear h1 h2
  go_enter Try.func58, Try.ntmps58
  go_wp2_with fail
  go_ret
  exact ⟨ret_bool (by rw [← hb.out]), rfl⟩

end Go.Proofs.Ytlididoalekeoaa
