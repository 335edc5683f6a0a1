/- Contract of what the laws draw of the code at a place; bytes that are read, as a text. -/
import Derived.Test.YtidbhdlhcmjhkaaStrB
import Derived.Test.YtidbhdlhcmjhkaaBig
import Derived.Test.YtidbhdlhcmjhkaaDeep
namespace Go.Proofs.Ytidbhdlhcmjhkaa
set_option maxRecDepth 4000
open Go.RowKit

theorem Reads.conv {w : World} {ao : Option Addr} {len : Nat} {bs : List UInt8} (h : Reads w ao len bs) (c : Nat) : (convert 22 9 (.slice ao len c)).run Try.prog w = .ok (.string (strB bs)) w := by
  obtain ⟨hl, h⟩ := h
  rcases h with h0 | ⟨b, off, rfl, hc⟩
  · subst h0
    obtain rfl : bs = [] := List.eq_nil_of_length_eq_zero hl
    cases ao with
    | none => exact run_convert_bytes_nil w 22 5 Try.underlying22 Try.underlying5 0 c 9 Try.underlying9
    | some a =>
      have := run_convert_bytes_back (P := Try.prog) w 22 9 5 a c ([] : List UInt8) Try.underlying22 Try.underlying5 Try.underlying9 (fun j hj => by simp at hj)
      exact this
  · have := run_convert_bytes_back (P := Try.prog) w 22 9 5 ⟨b, off, none⟩ c bs Try.underlying22 Try.underlying5 Try.underlying9 (fun j hj => by
      rw [Addr.add_lit, hc j (by omega)]
      simp [List.getD, List.getElem?_eq_getElem hj])
    rw [hl] at this; exact this
theorem Reads.conv_eq {w : World} {ao : Option Addr} {len : Nat} {bs : List UInt8} {S : ByteArray} (h : Reads w ao len bs) (c : Nat) (e : strB bs = S) : (convert 22 9 (.slice ao len c)).run Try.prog w = .ok (.string S) w := by
  rw [← e]; exact h.conv c
theorem two_bytes (w : World) (x y : UInt8) : RdB (w.alloc (.cells #[.int .u8 (x.toNat : Int), .int .u8 (y.toNat : Int)] 5)) [.slice (some ⟨w.heap.size, 0, none⟩) 2 2] [x, y] := by
  refine ⟨_, _, _, rfl, by unfold maxLen; omega, rfl, .inr ⟨_, _, rfl, fun j hj => ?_⟩⟩
  rcases j with _ | _ | j
  · exact cellsA (heap_alloc_new w _) 0 rfl
  · exact cellsA (heap_alloc_new w _) 1 rfl
  · omega
theorem u8_wrap (x : UInt8) : IntKind.u8.wrap (x.toNat : Int) = (x.toNat : Int) := by
  have := x.toNat_lt
  show ((x.toNat : Int) % 256) = _
  omega
set_option maxHeartbeats 1000000 in
theorem at_any (ao : Option Addr) (len cap : Nat) (bs : List UInt8) (i : Nat) (w : World) (hl : len ≤ 1048576) (hi : i ≤ 1000) (hr : Reads w ao len bs) :
    Calls Try.prog 7 #[.slice ao len cap, .int .i64 (i : Int)] w fun e w' => ∃ a : Int, 0 ≤ a ∧ a ≤ 255 ∧ e = .returned (.int .i64 a) ∧ w' = w := by
  by_cases hlt : i < len
  · have h1 : (i : Int) < (len : Int) := by omega
    have h0 : (0 : Int) ≤ (i : Int) := by omega
    obtain ⟨hn, h⟩ := hr
    rcases h with hz | ⟨b, off, rfl, hc⟩
    · omega
    have t0 := hc i hlt
    generalize bs.getD i 0 = x at t0
    clear hc hn
    go_enter Try.func7, Try.ntmps7
    go_wp2_with fail
    go_ret
    have hx := x.toNat_lt
    have hw : wrap64 (x.toNat : Int) = (x.toNat : Int) := wrap64_in (by omega) (by omega)
    exact ⟨wrap64 (x.toNat : Int), by rw [hw]; omega, by rw [hw]; omega, rfl, rfl⟩
  · have h1 : ¬ (i : Int) < (len : Int) := by omega
    clear hr
    go_enter Try.func7, Try.ntmps7
    go_wp2_with fail
    go_ret
    refine ⟨_, ?_, ?_, rfl, rfl⟩
    · omega
    · omega
theorem at_int (ao : Option Addr) (len cap : Nat) (bs : List UInt8) (i : Int) (w : World) (hl : len ≤ 1048576) (hi : 0 ≤ i ∧ i ≤ 1000) (hr : Reads w ao len bs) :
    Calls Try.prog 7 #[.slice ao len cap, .int .i64 i] w fun e w' => ∃ a : Int, 0 ≤ a ∧ a ≤ 255 ∧ e = .returned (.int .i64 a) ∧ w' = w := by
  obtain ⟨n, rfl⟩ : ∃ n : Nat, i = (n : Int) := ⟨i.toNat, by omega⟩
  exact at_any ao len cap bs n w hl (by omega) hr

end Go.Proofs.Ytidbhdlhcmjhkaa
