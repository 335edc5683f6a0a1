/- Contracts: two cells, two rows that are alike, in the specification; a cell as a value, in the program. -/
import Derived.Test.YtfgicjglinmclabSameP
namespace Go.Proofs.Ytfgicjglinmclab
set_option maxRecDepth 4000
open Go.RowKit

set_option maxHeartbeats 1000000 in
theorem specSameCell_any (t1 : Int) (o1 : Option Addr) (n1 c1 : Nat) (b1 : List UInt8) (t2 : Int) (o2 : Option Addr) (n2 c2 : Nat) (b2 : List UInt8) (w : World) (h1 : CellAt w o1 n1 c1 b1) (h2 : CellAt w o2 n2 c2 b2) :
    Calls Try.prog 43 #[.agg #[.int .i64 t1, .slice o1 n1 c1], .agg #[.int .i64 t2, .slice o2 n2 c2]] w fun e w' => e = .returned (.bool (sCell t1 b1 t2 b2)) ∧ Below w.heap.size w w' := by
  have hv1 := (h1.below (below_lit2 w (.cells #[.int .i64 t1, .slice o1 n1 c1] 44) (.cells #[.int .i64 t2, .slice o2 n2 c2] 44))).convA
  have hv2 := (h2.below (below_lit2 w (.cells #[.int .i64 t1, .slice o1 n1 c1] 44) (.cells #[.int .i64 t2, .slice o2 n2 c2] 44))).convA
  unfold sCell
  generalize strB b1 = S1 at *
  generalize strB b2 = S2 at *
  clear h1 h2
  by_cases ht : t1 = t2
  · have hq : (t1 == t2) = true := by simp [ht]
    rw [hq]
    clear ht
    go_enter Try.func43, Try.ntmps43
    go_wp2
    go_ret
    exact ⟨rfl, below_lit2 w _ _⟩
  · have hq : (t1 == t2) = false := by simp [ht]
    rw [hq]
    clear ht
    go_enter Try.func43, Try.ntmps43
    go_wp2
    go_ret
    exact ⟨rfl, below_lit2 w _ _⟩

set_option maxHeartbeats 1000000 in
theorem valueOf_at (t : Int) (ao : Option Addr) (n c : Nat) (bs : List UInt8) (w : World) (h : CellAt w ao n c bs) :
    Calls Try.prog 44 #[.agg #[.int .i64 t, .slice ao n c]] w fun e w' => e = .returned (.agg #[.int .i64 t, .string (strB bs)]) ∧ Below w.heap.size w w' := by
  have hcv := (h.below (below_lit2 w (.cells #[.int .i64 t, .slice ao n c] 44) (.cells #[.int .i64 0, .string ⟨#[]⟩] 77))).convA
  generalize strB bs = S at *
  clear h
  go_enter Try.func44, Try.ntmps44
  go_wp2_with fail
  refine bodyPost_ret (results_cell_row rfl _ _ (w.heap.size + 1) _ _ (0, 0) _ rfl (laid2 w _ _).2 Try.underlying77 rfl (by kernel_rfl)) rfl ?_
  exact ⟨rfl, below_lit2 w _ _⟩

end Go.Proofs.Ytfgicjglinmclab
