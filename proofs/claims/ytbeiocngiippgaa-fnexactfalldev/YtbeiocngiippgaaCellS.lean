/- Contracts of what the laws do with a cell: its size, a copy of it, whether two are alike, and the marks of its memory. -/
import Derived.Test.YtbeiocngiippgaaBlocks
import Derived.Test.YtbeiocngiippgaaRowOs
namespace Go.Proofs.Ytbeiocngiippgaa
set_option maxRecDepth 4000
open Go.RowKit

/-- A cell, as a value. -/
def cellV (tag : Int) (ao : Option Addr) (n c : Nat) : Value := .agg #[.int .i64 tag, .slice ao n c]

/-- What is left of a size. -/
def leftOf (n : Int) (len : Nat) : Int := if n < (len : Int) then -1 else n - (len : Int)
set_option maxHeartbeats 400000 in
theorem szByteS_n (ao : Option Addr) (len cap : Nat) (n : Int) (w : World) (hl : Hd (len ≤ maxLen)) (hn : Hd (0 ≤ n ∧ n ≤ 1048576)) :
    Calls Try.prog 64 #[.slice ao len cap, .int .i64 n] w fun e w' => e = .returned (.int .i64 (leftOf n len)) ∧ w = w' := by
  have hw : wrap64 (n - (len : Int)) = n - (len : Int) := by have := hl.out; have := hn.out; unfold maxLen at *; exact wrap64_in (by omega) (by omega)
  clear hl hn
  by_cases h : n < (len : Int)
  · rw [leftOf, if_pos h]
    have h2 : n - (len : Int) < 0 := by omega
    go_enter Try.func64, Try.ntmps64
    go_wp2
    go_ret
    exact ⟨rfl, rfl⟩
  · rw [leftOf, if_neg h]
    have h2 : ¬ n - (len : Int) < 0 := by omega
    go_enter Try.func64, Try.ntmps64
    go_wp2
    go_ret
    exact ⟨rfl, rfl⟩

end Go.Proofs.Ytbeiocngiippgaa
