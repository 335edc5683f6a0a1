/- A slice of bytes that may be nil: what it holds, and the marks of its memory. -/
import Derived.Test.YtlididoalekeoaaCommon
namespace Go.Proofs.Ytlididoalekeoaa
set_option maxRecDepth 4000
open Go.RowKit

/-- A slice that is nil, or the row of block g. -/
def RowO (w : World) (ao : Option Addr) (g : Nat) (bs : List UInt8) : Prop := (ao = none ∧ bs = []) ∨ (ao = some ⟨g, 0, none⟩ ∧ Row w g bs)
theorem RowO.reads {w : World} {ao : Option Addr} {g n : Nat} {bs : List UInt8} (h : RowO w ao g bs) (hn : bs.length = n) : Reads w ao n bs := by
  rcases h with ⟨rfl, rfl⟩ | ⟨rfl, hR⟩
  · exact ⟨hn, .inl (by simpa using hn.symm)⟩
  · exact hR.reads hn
theorem RowO.below {w w' : World} {ao : Option Addr} {g : Nat} {bs : List UInt8} (h : RowO w ao g bs) (hB : Below w.heap.size w w') : RowO w' ao g bs := by
  rcases h with h | ⟨h, hR⟩
  · exact .inl h
  · exact .inr ⟨h, hR.below hB⟩
theorem RowO.grown {w w' : World} {ao : Option Addr} {g k : Nat} {bs : List UInt8} (h : RowO w ao g bs) (hG : w.grownBy w' (some k)) (hg : g ≠ k) : RowO w' ao g bs := by
  rcases h with h | ⟨h, hR⟩
  · exact .inl h
  · exact .inr ⟨h, hR.grown hG hg⟩

set_option maxHeartbeats 400000 in
theorem markByteS_nil (c : Nat) (m : Int) (w : World) : Calls Try.prog 11 #[.slice none 0 c, .int .i64 m] w fun e w' => e = .returned (.int .i64 m) ∧ w = w' := by
  go_enter Try.func11, Try.ntmps11
  go_wp2_with fail
  refine wp_loop_rounds 1 ?_
  rewrite [rounds_succ]
  go_wp2_with fail
  go_ret
  exact ⟨rfl, rfl⟩

set_option maxHeartbeats 400000 in
theorem heldByteS_nil (c : Nat) (m : Int) (w : World) : Calls Try.prog 12 #[.slice none 0 c, .int .i64 m] w fun e w' => e = .returned (.int .i64 m) ∧ w = w' := by
  go_enter Try.func12, Try.ntmps12
  go_wp2_with fail
  refine wp_loop_rounds 1 ?_
  rewrite [rounds_succ]
  go_wp2_with fail
  go_ret
  exact ⟨rfl, rfl⟩

end Go.Proofs.Ytlididoalekeoaa
