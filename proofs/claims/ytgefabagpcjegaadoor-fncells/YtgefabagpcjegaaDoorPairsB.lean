/- Contracts of SignPair, in the program (over its table) and in the specification. -/
import Derived.Test.YtgefabagpcjegaaDoorPairs
namespace Go.Proofs.YtgefabagpcjegaaDoor
set_option maxRecDepth 4000
open Go.RowKit

set_option maxHeartbeats 400000 in
theorem implSignPair_one (n : Int) (w : World) (T : Hd (PairsAt w)) (h1 : 12353 ≤ n) (h2 : n ≤ 12435) :
    Calls Tryd.prog 95 #[.int .i64 n] w fun e w' => e = .returned (.tuple #[.int .i64 (spA n), .int .i64 (spB n), .bool (spOk n)]) ∧ Below w.heap.size w w' := by
  obtain ⟨c0, c1, c2, c3, c4, c5⟩ := T.out.cells
  have x0 := row_zero w
  have E1 : Hd ((164 : Int) = spA n) := ⟨(sp_one h1 h2).1.symm⟩
  have E2 : Hd (161 + n - 12353 = spB n) := ⟨by rw [(sp_one h1 h2).2.1]; omega⟩
  have E3 : Hd (true = spOk n) := ⟨(sp_one h1 h2).2.2.symm⟩
  go_enter Tryd.func95, Tryd.ntmps95
  go_wp2_with fail
  refine wp_loop_rounds 1 ?_
  rw [rounds_succ]
  go_wp2_with fail
  go_quiet (fail)
  go_wp2_with fail
  go_ret3
  exact ⟨ret3_int E1.out E2.out E3.out, (below_lit _ _).trans (below_drewN' _ _ _)⟩

set_option maxHeartbeats 400000 in
theorem implSignPair_two (n : Int) (w : World) (T : Hd (PairsAt w)) (h1 : 12449 ≤ n) (h2 : n ≤ 12534) :
    Calls Tryd.prog 95 #[.int .i64 n] w fun e w' => e = .returned (.tuple #[.int .i64 (spA n), .int .i64 (spB n), .bool (spOk n)]) ∧ Below w.heap.size w w' := by
  obtain ⟨c0, c1, c2, c3, c4, c5⟩ := T.out.cells
  have x0 := row_zero w
  have x1 := row_one (w.alloc (.cells #[.int .i64 164, .int .i64 243, .int .i64 12353] 112))
  have E1 : Hd ((165 : Int) = spA n) := ⟨(sp_two h1 h2).1.symm⟩
  have E2 : Hd (161 + n - 12449 = spB n) := ⟨by rw [(sp_two h1 h2).2.1]; omega⟩
  have E3 : Hd (true = spOk n) := ⟨(sp_two h1 h2).2.2.symm⟩
  go_enter Tryd.func95, Tryd.ntmps95
  go_wp2_with fail
  refine wp_loop_rounds 2 ?_
  rw [rounds_succ]
  go_wp2_with fail
  rw [rounds_succ]
  go_wp2_with fail
  go_quiet (fail)
  go_wp2_with fail
  go_ret3
  exact ⟨ret3_int E1.out E2.out E3.out, (below_lit2 _ _ _).trans (below_drewN' _ _ _)⟩

set_option maxHeartbeats 400000 in
theorem implSignPair_noa (n : Int) (w : World) (T : Hd (PairsAt w)) (h1 : n < 12353) :
    Calls Tryd.prog 95 #[.int .i64 n] w fun e w' => e = .returned (.tuple #[.int .i64 (spA n), .int .i64 (spB n), .bool (spOk n)]) ∧ Below w.heap.size w w' := by
  obtain ⟨c0, c1, c2, c3, c4, c5⟩ := T.out.cells
  have x0 := row_zero w
  have x1 := row_one (w.alloc (.cells #[.int .i64 164, .int .i64 243, .int .i64 12353] 112))
  have E1 : Hd ((0 : Int) = spA n) := ⟨(sp_no (by omega) (by omega)).1.symm⟩
  have E2 : Hd ((0 : Int) = spB n) := ⟨(sp_no (by omega) (by omega)).2.1.symm⟩
  have E3 : Hd (false = spOk n) := ⟨(sp_no (by omega) (by omega)).2.2.symm⟩
  go_enter Tryd.func95, Tryd.ntmps95
  go_wp2_with fail
  refine wp_loop_rounds 3 ?_
  rw [rounds_succ]
  go_wp2_with fail
  rw [rounds_succ]
  go_wp2_with fail
  rw [rounds_succ]
  go_wp2_with fail
  go_ret3
  exact ⟨ret3_int E1.out E2.out E3.out, below_lit2 _ _ _⟩

set_option maxHeartbeats 400000 in
theorem implSignPair_nob (n : Int) (w : World) (T : Hd (PairsAt w)) (h1 : 12435 < n) (h2 : n < 12449) :
    Calls Tryd.prog 95 #[.int .i64 n] w fun e w' => e = .returned (.tuple #[.int .i64 (spA n), .int .i64 (spB n), .bool (spOk n)]) ∧ Below w.heap.size w w' := by
  obtain ⟨c0, c1, c2, c3, c4, c5⟩ := T.out.cells
  have x0 := row_zero w
  have x1 := row_one (w.alloc (.cells #[.int .i64 164, .int .i64 243, .int .i64 12353] 112))
  have E1 : Hd ((0 : Int) = spA n) := ⟨(sp_no (by omega) (by omega)).1.symm⟩
  have E2 : Hd ((0 : Int) = spB n) := ⟨(sp_no (by omega) (by omega)).2.1.symm⟩
  have E3 : Hd (false = spOk n) := ⟨(sp_no (by omega) (by omega)).2.2.symm⟩
  go_enter Tryd.func95, Tryd.ntmps95
  go_wp2_with fail
  refine wp_loop_rounds 3 ?_
  rw [rounds_succ]
  go_wp2_with fail
  rw [rounds_succ]
  go_wp2_with fail
  rw [rounds_succ]
  go_wp2_with fail
  go_ret3
  exact ⟨ret3_int E1.out E2.out E3.out, below_lit2 _ _ _⟩

set_option maxHeartbeats 400000 in
theorem implSignPair_noc (n : Int) (w : World) (T : Hd (PairsAt w)) (h1 : 12534 < n) (h2 : n ≤ 9223372036854775807) :
    Calls Tryd.prog 95 #[.int .i64 n] w fun e w' => e = .returned (.tuple #[.int .i64 (spA n), .int .i64 (spB n), .bool (spOk n)]) ∧ Below w.heap.size w w' := by
  obtain ⟨c0, c1, c2, c3, c4, c5⟩ := T.out.cells
  have x0 := row_zero w
  have x1 := row_one (w.alloc (.cells #[.int .i64 164, .int .i64 243, .int .i64 12353] 112))
  have E1 : Hd ((0 : Int) = spA n) := ⟨(sp_no (by omega) (by omega)).1.symm⟩
  have E2 : Hd ((0 : Int) = spB n) := ⟨(sp_no (by omega) (by omega)).2.1.symm⟩
  have E3 : Hd (false = spOk n) := ⟨(sp_no (by omega) (by omega)).2.2.symm⟩
  go_enter Tryd.func95, Tryd.ntmps95
  go_wp2_with fail
  refine wp_loop_rounds 3 ?_
  rw [rounds_succ]
  go_wp2_with fail
  rw [rounds_succ]
  go_wp2_with fail
  rw [rounds_succ]
  go_wp2_with fail
  go_ret3
  exact ⟨ret3_int E1.out E2.out E3.out, below_lit2 _ _ _⟩

theorem implSignPair_any (n : Int) (w : World) (T : Hd (PairsAt w)) (hn : n ≤ 9223372036854775807) :
    Calls Tryd.prog 95 #[.int .i64 n] w fun e w' => e = .returned (.tuple #[.int .i64 (spA n), .int .i64 (spB n), .bool (spOk n)]) ∧ Below w.heap.size w w' := by
  rcases (show n < 12353 ∨ (12435 < n ∧ n < 12449) ∨ 12534 < n ∨ (12353 ≤ n ∧ n ≤ 12435) ∨ (12449 ≤ n ∧ n ≤ 12534) from by omega) with h | h | h | h | h
  · exact implSignPair_noa n w T h
  · exact implSignPair_nob n w T h.1 h.2
  · exact implSignPair_noc n w T h hn
  · exact implSignPair_one n w T h.1 h.2
  · exact implSignPair_two n w T h.1 h.2

set_option maxHeartbeats 400000 in
theorem specSignPair_one (n : Int) (w : World) (h1 : 12353 ≤ n) (h2 : n ≤ 12435) :
    Calls Tryd.prog 88 #[.int .i64 n] w fun e w' => e = .returned (.tuple #[.int .i64 (spA n), .int .i64 (spB n), .bool (spOk n)]) ∧ w' = w := by
  have E1 : Hd ((164 : Int) = spA n) := ⟨(sp_one h1 h2).1.symm⟩
  have E2 : Hd (n - 12353 + 161 = spB n) := ⟨by rw [(sp_one h1 h2).2.1]; omega⟩
  have E3 : Hd (true = spOk n) := ⟨(sp_one h1 h2).2.2.symm⟩
  have i1 := in_t (x := n) (lo := 12353) (hi := 12435) ⟨h1, h2⟩
  go_enter Tryd.func88, Tryd.ntmps88
  go_wp2_with (go_at_call 64; refine (l1In_any _ _ _ _).mono ?_; rintro e w' ⟨rfl, hw⟩; replace hw := hw.symm; subst hw)
  go_ret3
  exact ⟨ret3_int E1.out E2.out E3.out, rfl⟩

set_option maxHeartbeats 400000 in
theorem specSignPair_two (n : Int) (w : World) (h1 : 12449 ≤ n) (h2 : n ≤ 12534) :
    Calls Tryd.prog 88 #[.int .i64 n] w fun e w' => e = .returned (.tuple #[.int .i64 (spA n), .int .i64 (spB n), .bool (spOk n)]) ∧ w' = w := by
  have E1 : Hd ((165 : Int) = spA n) := ⟨(sp_two h1 h2).1.symm⟩
  have E2 : Hd (n - 12449 + 161 = spB n) := ⟨by rw [(sp_two h1 h2).2.1]; omega⟩
  have E3 : Hd (true = spOk n) := ⟨(sp_two h1 h2).2.2.symm⟩
  have i1 := in_f (x := n) (lo := 12353) (hi := 12435) (by omega)
  have i2 := in_t (x := n) (lo := 12449) (hi := 12534) ⟨h1, h2⟩
  go_enter Tryd.func88, Tryd.ntmps88
  go_wp2_with (go_at_call 64; refine (l1In_any _ _ _ _).mono ?_; rintro e w' ⟨rfl, hw⟩; replace hw := hw.symm; subst hw)
  go_ret3
  exact ⟨ret3_int E1.out E2.out E3.out, rfl⟩

set_option maxHeartbeats 400000 in
theorem specSignPair_no (n : Int) (w : World) (h1 : ¬(12353 ≤ n ∧ n ≤ 12435)) (h2 : ¬(12449 ≤ n ∧ n ≤ 12534)) :
    Calls Tryd.prog 88 #[.int .i64 n] w fun e w' => e = .returned (.tuple #[.int .i64 (spA n), .int .i64 (spB n), .bool (spOk n)]) ∧ w' = w := by
  have E1 : Hd ((0 : Int) = spA n) := ⟨(sp_no (by omega) (by omega)).1.symm⟩
  have E2 : Hd ((0 : Int) = spB n) := ⟨(sp_no (by omega) (by omega)).2.1.symm⟩
  have E3 : Hd (false = spOk n) := ⟨(sp_no (by omega) (by omega)).2.2.symm⟩
  have i1 := in_f (x := n) (lo := 12353) (hi := 12435) h1
  have i2 := in_f (x := n) (lo := 12449) (hi := 12534) h2
  clear h1 h2
  go_enter Tryd.func88, Tryd.ntmps88
  go_wp2_with (go_at_call 64; refine (l1In_any _ _ _ _).mono ?_; rintro e w' ⟨rfl, hw⟩; replace hw := hw.symm; subst hw)
  go_ret3
  exact ⟨ret3_int E1.out E2.out E3.out, rfl⟩

theorem specSignPair_any (n : Int) (w : World) :
    Calls Tryd.prog 88 #[.int .i64 n] w fun e w' => e = .returned (.tuple #[.int .i64 (spA n), .int .i64 (spB n), .bool (spOk n)]) ∧ w' = w := by
  rcases (show (¬(12353 ≤ n ∧ n ≤ 12435) ∧ ¬(12449 ≤ n ∧ n ≤ 12534)) ∨ (12353 ≤ n ∧ n ≤ 12435) ∨ (12449 ≤ n ∧ n ≤ 12534) from by omega) with h | h | h
  · exact specSignPair_no n w h.1 h.2
  · exact specSignPair_one n w h.1 h.2
  · exact specSignPair_two n w h.1 h.2

end Go.Proofs.YtgefabagpcjegaaDoor
