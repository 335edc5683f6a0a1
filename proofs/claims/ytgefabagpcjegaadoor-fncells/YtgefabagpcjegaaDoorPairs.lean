/- Contracts of PairSign and SignPair, in the program (over its table) and in the specification. -/
import Derived.Test.YtgefabagpcjegaaDoorCommon
import Derived.Test.YtgefabagpcjegaaDoorBase
import Derived.Test.YtgefabagpcjegaaDoorPairsP
namespace Go.Proofs.YtgefabagpcjegaaDoor
set_option maxRecDepth 4000
open Go.RowKit

def pairT : List Int := [164, 243, 12353, 165, 246, 12449]
/-- The program's table of pairs lies in its variable. -/
structure PairsAt (w : World) : Prop where
  out : ∀ j, j < 6 → w.cell? ⟨0, j, none⟩ = some (.int .i64 (pairT.getD j 0))
theorem PairsAt.below {w w' : World} (h : PairsAt w) (hb : Below w.heap.size w w') : PairsAt w' := ⟨fun j hj => cell_below (h.out j hj) hb⟩
/-- The cells of the table, one by one. -/
theorem PairsAt.cells {w : World} (h : PairsAt w) : w.cell? ⟨0, 0, none⟩ = some (.int .i64 164) ∧ w.cell? ⟨0, 1, none⟩ = some (.int .i64 243) ∧ w.cell? ⟨0, 2, none⟩ = some (.int .i64 12353) ∧ w.cell? ⟨0, 3, none⟩ = some (.int .i64 165) ∧ w.cell? ⟨0, 4, none⟩ = some (.int .i64 246) ∧ w.cell? ⟨0, 5, none⟩ = some (.int .i64 12449) :=
  ⟨h.out 0 (by omega), h.out 1 (by omega), h.out 2 (by omega), h.out 3 (by omega), h.out 4 (by omega), h.out 5 (by omega)⟩

theorem row_zero (w : World) : (Instr.index 113 (.agg #[.int .i64 164, .int .i64 243, .int .i64 12353, .int .i64 165, .int .i64 246, .int .i64 12449]) (.int .i64 0)).run Tryd.prog w = .ok (.agg #[.int .i64 164, .int .i64 243, .int .i64 12353]) w := by kernel_rfl

theorem row_one (w : World) : (Instr.index 113 (.agg #[.int .i64 164, .int .i64 243, .int .i64 12353, .int .i64 165, .int .i64 246, .int .i64 12449]) (.int .i64 1)).run Tryd.prog w = .ok (.agg #[.int .i64 165, .int .i64 246, .int .i64 12449]) w := by kernel_rfl

set_option maxHeartbeats 400000 in
theorem implPairSign_one (hi lo : Int) (w : World) (T : Hd (PairsAt w)) (h : hi = 164) (h1 : 161 ≤ lo) (h2 : lo ≤ 243) :
    Calls Tryd.prog 99 #[.int .i64 hi, .int .i64 lo] w fun e w' => e = .returned (.tuple #[.int .i64 (psN hi lo), .bool (psOk hi lo)]) ∧ Below w.heap.size w w' := by
  obtain ⟨c0, c1, c2, c3, c4, c5⟩ := T.out.cells
  have x0 := row_zero w
  have E1 : Hd (12353 + lo - 161 = psN hi lo) := ⟨by rw [(ps_one h h1 h2).1]; omega⟩
  have E2 : Hd (true = psOk hi lo) := ⟨(ps_one h h1 h2).2.symm⟩
  go_enter Tryd.func99, Tryd.ntmps99
  go_wp2_with fail
  refine wp_loop_rounds 1 ?_
  rw [rounds_succ]
  go_wp2_with fail
  go_ret2
  exact ⟨ret_pair E1.out E2.out, below_lit _ _⟩

set_option maxHeartbeats 400000 in
theorem implPairSign_two (hi lo : Int) (w : World) (T : Hd (PairsAt w)) (h : hi = 165) (h1 : 161 ≤ lo) (h2 : lo ≤ 246) :
    Calls Tryd.prog 99 #[.int .i64 hi, .int .i64 lo] w fun e w' => e = .returned (.tuple #[.int .i64 (psN hi lo), .bool (psOk hi lo)]) ∧ Below w.heap.size w w' := by
  obtain ⟨c0, c1, c2, c3, c4, c5⟩ := T.out.cells
  have x0 := row_zero w
  have x1 := row_one (w.alloc (.cells #[.int .i64 164, .int .i64 243, .int .i64 12353] 112))
  have E1 : Hd (12449 + lo - 161 = psN hi lo) := ⟨by rw [(ps_two h h1 h2).1]; omega⟩
  have E2 : Hd (true = psOk hi lo) := ⟨(ps_two h h1 h2).2.symm⟩
  go_enter Tryd.func99, Tryd.ntmps99
  go_wp2_with fail
  refine wp_loop_rounds 2 ?_
  rw [rounds_succ]
  go_wp2_with fail
  rw [rounds_succ]
  go_wp2_with fail
  go_ret2
  exact ⟨ret_pair E1.out E2.out, below_lit2 _ _ _⟩

set_option maxHeartbeats 400000 in
theorem implPairSign_noa (hi lo : Int) (w : World) (T : Hd (PairsAt w)) (h : hi < 164) :
    Calls Tryd.prog 99 #[.int .i64 hi, .int .i64 lo] w fun e w' => e = .returned (.tuple #[.int .i64 (psN hi lo), .bool (psOk hi lo)]) ∧ Below w.heap.size w w' := by
  obtain ⟨c0, c1, c2, c3, c4, c5⟩ := T.out.cells
  have x0 := row_zero w
  have x1 := row_one (w.alloc (.cells #[.int .i64 164, .int .i64 243, .int .i64 12353] 112))
  have E1 : Hd ((0 : Int) = psN hi lo) := ⟨(ps_no (by omega) (by omega)).1.symm⟩
  have E2 : Hd (false = psOk hi lo) := ⟨(ps_no (by omega) (by omega)).2.symm⟩
  go_enter Tryd.func99, Tryd.ntmps99
  go_wp2_with fail
  refine wp_loop_rounds 3 ?_
  rw [rounds_succ]
  go_wp2_with fail
  rw [rounds_succ]
  go_wp2_with fail
  rw [rounds_succ]
  go_wp2_with fail
  go_ret2
  exact ⟨ret_pair E1.out E2.out, below_lit2 _ _ _⟩

set_option maxHeartbeats 400000 in
theorem implPairSign_nob (hi lo : Int) (w : World) (T : Hd (PairsAt w)) (h : 165 < hi) :
    Calls Tryd.prog 99 #[.int .i64 hi, .int .i64 lo] w fun e w' => e = .returned (.tuple #[.int .i64 (psN hi lo), .bool (psOk hi lo)]) ∧ Below w.heap.size w w' := by
  obtain ⟨c0, c1, c2, c3, c4, c5⟩ := T.out.cells
  have x0 := row_zero w
  have x1 := row_one (w.alloc (.cells #[.int .i64 164, .int .i64 243, .int .i64 12353] 112))
  have E1 : Hd ((0 : Int) = psN hi lo) := ⟨(ps_no (by omega) (by omega)).1.symm⟩
  have E2 : Hd (false = psOk hi lo) := ⟨(ps_no (by omega) (by omega)).2.symm⟩
  go_enter Tryd.func99, Tryd.ntmps99
  go_wp2_with fail
  refine wp_loop_rounds 3 ?_
  rw [rounds_succ]
  go_wp2_with fail
  rw [rounds_succ]
  go_wp2_with fail
  rw [rounds_succ]
  go_wp2_with fail
  go_ret2
  exact ⟨ret_pair E1.out E2.out, below_lit2 _ _ _⟩

set_option maxHeartbeats 400000 in
theorem implPairSign_noc (hi lo : Int) (w : World) (T : Hd (PairsAt w)) (h : hi = 164) (h1 : lo < 161) :
    Calls Tryd.prog 99 #[.int .i64 hi, .int .i64 lo] w fun e w' => e = .returned (.tuple #[.int .i64 (psN hi lo), .bool (psOk hi lo)]) ∧ Below w.heap.size w w' := by
  obtain ⟨c0, c1, c2, c3, c4, c5⟩ := T.out.cells
  have x0 := row_zero w
  have x1 := row_one (w.alloc (.cells #[.int .i64 164, .int .i64 243, .int .i64 12353] 112))
  have E1 : Hd ((0 : Int) = psN hi lo) := ⟨(ps_no (by omega) (by omega)).1.symm⟩
  have E2 : Hd (false = psOk hi lo) := ⟨(ps_no (by omega) (by omega)).2.symm⟩
  go_enter Tryd.func99, Tryd.ntmps99
  go_wp2_with fail
  refine wp_loop_rounds 3 ?_
  rw [rounds_succ]
  go_wp2_with fail
  rw [rounds_succ]
  go_wp2_with fail
  rw [rounds_succ]
  go_wp2_with fail
  go_ret2
  exact ⟨ret_pair E1.out E2.out, below_lit2 _ _ _⟩

set_option maxHeartbeats 400000 in
theorem implPairSign_nod (hi lo : Int) (w : World) (T : Hd (PairsAt w)) (h : hi = 164) (h1 : 243 < lo) :
    Calls Tryd.prog 99 #[.int .i64 hi, .int .i64 lo] w fun e w' => e = .returned (.tuple #[.int .i64 (psN hi lo), .bool (psOk hi lo)]) ∧ Below w.heap.size w w' := by
  obtain ⟨c0, c1, c2, c3, c4, c5⟩ := T.out.cells
  have x0 := row_zero w
  have x1 := row_one (w.alloc (.cells #[.int .i64 164, .int .i64 243, .int .i64 12353] 112))
  have E1 : Hd ((0 : Int) = psN hi lo) := ⟨(ps_no (by omega) (by omega)).1.symm⟩
  have E2 : Hd (false = psOk hi lo) := ⟨(ps_no (by omega) (by omega)).2.symm⟩
  go_enter Tryd.func99, Tryd.ntmps99
  go_wp2_with fail
  refine wp_loop_rounds 3 ?_
  rw [rounds_succ]
  go_wp2_with fail
  rw [rounds_succ]
  go_wp2_with fail
  rw [rounds_succ]
  go_wp2_with fail
  go_ret2
  exact ⟨ret_pair E1.out E2.out, below_lit2 _ _ _⟩

set_option maxHeartbeats 400000 in
theorem implPairSign_noe (hi lo : Int) (w : World) (T : Hd (PairsAt w)) (h : hi = 165) (h1 : lo < 161) :
    Calls Tryd.prog 99 #[.int .i64 hi, .int .i64 lo] w fun e w' => e = .returned (.tuple #[.int .i64 (psN hi lo), .bool (psOk hi lo)]) ∧ Below w.heap.size w w' := by
  obtain ⟨c0, c1, c2, c3, c4, c5⟩ := T.out.cells
  have x0 := row_zero w
  have x1 := row_one (w.alloc (.cells #[.int .i64 164, .int .i64 243, .int .i64 12353] 112))
  have E1 : Hd ((0 : Int) = psN hi lo) := ⟨(ps_no (by omega) (by omega)).1.symm⟩
  have E2 : Hd (false = psOk hi lo) := ⟨(ps_no (by omega) (by omega)).2.symm⟩
  go_enter Tryd.func99, Tryd.ntmps99
  go_wp2_with fail
  refine wp_loop_rounds 3 ?_
  rw [rounds_succ]
  go_wp2_with fail
  rw [rounds_succ]
  go_wp2_with fail
  rw [rounds_succ]
  go_wp2_with fail
  go_ret2
  exact ⟨ret_pair E1.out E2.out, below_lit2 _ _ _⟩

set_option maxHeartbeats 400000 in
theorem implPairSign_nof (hi lo : Int) (w : World) (T : Hd (PairsAt w)) (h : hi = 165) (h1 : 246 < lo) :
    Calls Tryd.prog 99 #[.int .i64 hi, .int .i64 lo] w fun e w' => e = .returned (.tuple #[.int .i64 (psN hi lo), .bool (psOk hi lo)]) ∧ Below w.heap.size w w' := by
  obtain ⟨c0, c1, c2, c3, c4, c5⟩ := T.out.cells
  have x0 := row_zero w
  have x1 := row_one (w.alloc (.cells #[.int .i64 164, .int .i64 243, .int .i64 12353] 112))
  have E1 : Hd ((0 : Int) = psN hi lo) := ⟨(ps_no (by omega) (by omega)).1.symm⟩
  have E2 : Hd (false = psOk hi lo) := ⟨(ps_no (by omega) (by omega)).2.symm⟩
  go_enter Tryd.func99, Tryd.ntmps99
  go_wp2_with fail
  refine wp_loop_rounds 3 ?_
  rw [rounds_succ]
  go_wp2_with fail
  rw [rounds_succ]
  go_wp2_with fail
  rw [rounds_succ]
  go_wp2_with fail
  go_ret2
  exact ⟨ret_pair E1.out E2.out, below_lit2 _ _ _⟩

theorem implPairSign_any (hi lo : Int) (w : World) (T : Hd (PairsAt w)) :
    Calls Tryd.prog 99 #[.int .i64 hi, .int .i64 lo] w fun e w' => e = .returned (.tuple #[.int .i64 (psN hi lo), .bool (psOk hi lo)]) ∧ Below w.heap.size w w' := by
  rcases (show hi < 164 ∨ 165 < hi ∨ (hi = 164 ∧ lo < 161) ∨ (hi = 164 ∧ 243 < lo) ∨ (hi = 165 ∧ lo < 161) ∨ (hi = 165 ∧ 246 < lo) ∨ (hi = 164 ∧ 161 ≤ lo ∧ lo ≤ 243) ∨ (hi = 165 ∧ 161 ≤ lo ∧ lo ≤ 246) from by omega) with h | h | h | h | h | h | h | h
  · exact implPairSign_noa hi lo w T h
  · exact implPairSign_nob hi lo w T h
  · exact implPairSign_noc hi lo w T h.1 h.2
  · exact implPairSign_nod hi lo w T h.1 h.2
  · exact implPairSign_noe hi lo w T h.1 h.2
  · exact implPairSign_nof hi lo w T h.1 h.2
  · exact implPairSign_one hi lo w T h.1 h.2.1 h.2.2
  · exact implPairSign_two hi lo w T h.1 h.2.1 h.2.2

set_option maxHeartbeats 400000 in
theorem specPairSign_one (hi lo : Int) (w : World) (h : hi = 164) (h1 : 161 ≤ lo) (h2 : lo ≤ 243) :
    Calls Tryd.prog 89 #[.int .i64 hi, .int .i64 lo] w fun e w' => e = .returned (.tuple #[.int .i64 (psN hi lo), .bool (psOk hi lo)]) ∧ w' = w := by
  have E1 : Hd (12353 + lo - 161 = psN hi lo) := ⟨by rw [(ps_one h h1 h2).1]; omega⟩
  have E2 : Hd (true = psOk hi lo) := ⟨(ps_one h h1 h2).2.symm⟩
  have i1 := in_t (x := lo) (lo := 161) (hi := 243) ⟨h1, h2⟩
  go_enter Tryd.func89, Tryd.ntmps89
  go_wp2_with (go_at_call 64; refine (l1In_any _ _ _ _).mono ?_; rintro e w' ⟨rfl, hw⟩; replace hw := hw.symm; subst hw)
  go_ret2
  exact ⟨ret_pair E1.out E2.out, rfl⟩

set_option maxHeartbeats 400000 in
theorem specPairSign_two (hi lo : Int) (w : World) (h : hi = 165) (h1 : 161 ≤ lo) (h2 : lo ≤ 246) :
    Calls Tryd.prog 89 #[.int .i64 hi, .int .i64 lo] w fun e w' => e = .returned (.tuple #[.int .i64 (psN hi lo), .bool (psOk hi lo)]) ∧ w' = w := by
  have E1 : Hd (12449 + lo - 161 = psN hi lo) := ⟨by rw [(ps_two h h1 h2).1]; omega⟩
  have E2 : Hd (true = psOk hi lo) := ⟨(ps_two h h1 h2).2.symm⟩
  have i1 := in_t (x := lo) (lo := 161) (hi := 246) ⟨h1, h2⟩
  go_enter Tryd.func89, Tryd.ntmps89
  go_wp2_with (go_at_call 64; refine (l1In_any _ _ _ _).mono ?_; rintro e w' ⟨rfl, hw⟩; replace hw := hw.symm; subst hw)
  go_ret2
  exact ⟨ret_pair E1.out E2.out, rfl⟩

set_option maxHeartbeats 400000 in
theorem specPairSign_noa (hi lo : Int) (w : World) (h : hi < 164) :
    Calls Tryd.prog 89 #[.int .i64 hi, .int .i64 lo] w fun e w' => e = .returned (.tuple #[.int .i64 (psN hi lo), .bool (psOk hi lo)]) ∧ w' = w := by
  have E1 : Hd ((0 : Int) = psN hi lo) := ⟨(ps_no (by omega) (by omega)).1.symm⟩
  have E2 : Hd (false = psOk hi lo) := ⟨(ps_no (by omega) (by omega)).2.symm⟩
  go_enter Tryd.func89, Tryd.ntmps89
  go_wp2_with (go_at_call 64; refine (l1In_any _ _ _ _).mono ?_; rintro e w' ⟨rfl, hw⟩; replace hw := hw.symm; subst hw)
  go_ret2
  exact ⟨ret_pair E1.out E2.out, rfl⟩

set_option maxHeartbeats 400000 in
theorem specPairSign_nob (hi lo : Int) (w : World) (h : 165 < hi) :
    Calls Tryd.prog 89 #[.int .i64 hi, .int .i64 lo] w fun e w' => e = .returned (.tuple #[.int .i64 (psN hi lo), .bool (psOk hi lo)]) ∧ w' = w := by
  have E1 : Hd ((0 : Int) = psN hi lo) := ⟨(ps_no (by omega) (by omega)).1.symm⟩
  have E2 : Hd (false = psOk hi lo) := ⟨(ps_no (by omega) (by omega)).2.symm⟩
  go_enter Tryd.func89, Tryd.ntmps89
  go_wp2_with (go_at_call 64; refine (l1In_any _ _ _ _).mono ?_; rintro e w' ⟨rfl, hw⟩; replace hw := hw.symm; subst hw)
  go_ret2
  exact ⟨ret_pair E1.out E2.out, rfl⟩

set_option maxHeartbeats 400000 in
theorem specPairSign_noc (hi lo : Int) (w : World) (h : hi = 164) (h1 : ¬(161 ≤ lo ∧ lo ≤ 243)) :
    Calls Tryd.prog 89 #[.int .i64 hi, .int .i64 lo] w fun e w' => e = .returned (.tuple #[.int .i64 (psN hi lo), .bool (psOk hi lo)]) ∧ w' = w := by
  have E1 : Hd ((0 : Int) = psN hi lo) := ⟨(ps_no (by omega) (by omega)).1.symm⟩
  have E2 : Hd (false = psOk hi lo) := ⟨(ps_no (by omega) (by omega)).2.symm⟩
  have i1 := in_f (x := lo) (lo := 161) (hi := 243) h1
  clear h1
  go_enter Tryd.func89, Tryd.ntmps89
  go_wp2_with (go_at_call 64; refine (l1In_any _ _ _ _).mono ?_; rintro e w' ⟨rfl, hw⟩; replace hw := hw.symm; subst hw)
  go_ret2
  exact ⟨ret_pair E1.out E2.out, rfl⟩

set_option maxHeartbeats 400000 in
theorem specPairSign_nod (hi lo : Int) (w : World) (h : hi = 165) (h1 : ¬(161 ≤ lo ∧ lo ≤ 246)) :
    Calls Tryd.prog 89 #[.int .i64 hi, .int .i64 lo] w fun e w' => e = .returned (.tuple #[.int .i64 (psN hi lo), .bool (psOk hi lo)]) ∧ w' = w := by
  have E1 : Hd ((0 : Int) = psN hi lo) := ⟨(ps_no (by omega) (by omega)).1.symm⟩
  have E2 : Hd (false = psOk hi lo) := ⟨(ps_no (by omega) (by omega)).2.symm⟩
  have i1 := in_f (x := lo) (lo := 161) (hi := 246) h1
  clear h1
  go_enter Tryd.func89, Tryd.ntmps89
  go_wp2_with (go_at_call 64; refine (l1In_any _ _ _ _).mono ?_; rintro e w' ⟨rfl, hw⟩; replace hw := hw.symm; subst hw)
  go_ret2
  exact ⟨ret_pair E1.out E2.out, rfl⟩

theorem specPairSign_any (hi lo : Int) (w : World) :
    Calls Tryd.prog 89 #[.int .i64 hi, .int .i64 lo] w fun e w' => e = .returned (.tuple #[.int .i64 (psN hi lo), .bool (psOk hi lo)]) ∧ w' = w := by
  rcases (show hi < 164 ∨ 165 < hi ∨ (hi = 164 ∧ ¬(161 ≤ lo ∧ lo ≤ 243)) ∨ (hi = 165 ∧ ¬(161 ≤ lo ∧ lo ≤ 246)) ∨ (hi = 164 ∧ 161 ≤ lo ∧ lo ≤ 243) ∨ (hi = 165 ∧ 161 ≤ lo ∧ lo ≤ 246) from by omega) with h | h | h | h | h | h
  · exact specPairSign_noa hi lo w h
  · exact specPairSign_nob hi lo w h
  · exact specPairSign_noc hi lo w h.1 h.2
  · exact specPairSign_nod hi lo w h.1 h.2
  · exact specPairSign_one hi lo w h.1 h.2.1 h.2.2
  · exact specPairSign_two hi lo w h.1 h.2.1 h.2.2

end Go.Proofs.YtgefabagpcjegaaDoor
