/- Plain facts on signs of two bytes: which sign two bytes stand for, and back. Contracts of PairSign and SignPair, in the program (over its table) and in the specification. Contracts of SignPair, in the program (over its table) and in the specification. -/
import Derived.Test.YtpafjehphajbhaaGreatDoorPlain
import Derived.Test.YtpafjehphajbhaaGreatDoorCommon
import Derived.Test.YtpafjehphajbhaaGreatDoorBase
namespace Go.Proofs.YtpafjehphajbhaaGreatDoor
set_option maxRecDepth 4000
open Go.RowKit

/-- The sign of two bytes (0 beside a false), and whether there is one. -/
def psN (hi lo : Int) : Int := if hi = 164 ∧ 161 ≤ lo ∧ lo ≤ 243 then 12192 + lo else if hi = 165 ∧ 161 ≤ lo ∧ lo ≤ 246 then 12288 + lo else 0
def psOk (hi lo : Int) : Bool := if hi = 164 ∧ 161 ≤ lo ∧ lo ≤ 243 then true else if hi = 165 ∧ 161 ≤ lo ∧ lo ≤ 246 then true else false
/-- The two bytes of a sign (0 and 0 beside a false), and whether there are some. -/
def spA (n : Int) : Int := if 12353 ≤ n ∧ n ≤ 12435 then 164 else if 12449 ≤ n ∧ n ≤ 12534 then 165 else 0
def spB (n : Int) : Int := if 12353 ≤ n ∧ n ≤ 12435 then n - 12192 else if 12449 ≤ n ∧ n ≤ 12534 then n - 12288 else 0
def spOk (n : Int) : Bool := if 12353 ≤ n ∧ n ≤ 12435 then true else if 12449 ≤ n ∧ n ≤ 12534 then true else false

theorem ps_one {hi lo : Int} (h : hi = 164) (h1 : 161 ≤ lo) (h2 : lo ≤ 243) : psN hi lo = 12192 + lo ∧ psOk hi lo = true := by
  unfold psN psOk; rw [if_pos ⟨h, h1, h2⟩, if_pos ⟨h, h1, h2⟩]; exact ⟨rfl, rfl⟩
theorem ps_two {hi lo : Int} (h : hi = 165) (h1 : 161 ≤ lo) (h2 : lo ≤ 246) : psN hi lo = 12288 + lo ∧ psOk hi lo = true := by
  have k : ¬(hi = 164 ∧ 161 ≤ lo ∧ lo ≤ 243) := by omega
  unfold psN psOk; rw [if_neg k, if_neg k, if_pos ⟨h, h1, h2⟩, if_pos ⟨h, h1, h2⟩]; exact ⟨rfl, rfl⟩
theorem ps_no {hi lo : Int} (h : ¬(hi = 164 ∧ 161 ≤ lo ∧ lo ≤ 243)) (k : ¬(hi = 165 ∧ 161 ≤ lo ∧ lo ≤ 246)) : psN hi lo = 0 ∧ psOk hi lo = false := by
  unfold psN psOk; rw [if_neg h, if_neg h, if_neg k, if_neg k]; exact ⟨rfl, rfl⟩
theorem sp_one {n : Int} (h1 : 12353 ≤ n) (h2 : n ≤ 12435) : spA n = 164 ∧ spB n = n - 12192 ∧ spOk n = true := by
  unfold spA spB spOk; rw [if_pos ⟨h1, h2⟩, if_pos ⟨h1, h2⟩, if_pos ⟨h1, h2⟩]; exact ⟨rfl, rfl, rfl⟩
theorem sp_two {n : Int} (h1 : 12449 ≤ n) (h2 : n ≤ 12534) : spA n = 165 ∧ spB n = n - 12288 ∧ spOk n = true := by
  have k : ¬(12353 ≤ n ∧ n ≤ 12435) := by omega
  unfold spA spB spOk; rw [if_neg k, if_neg k, if_neg k, if_pos ⟨h1, h2⟩, if_pos ⟨h1, h2⟩, if_pos ⟨h1, h2⟩]; exact ⟨rfl, rfl, rfl⟩
theorem sp_no {n : Int} (h : ¬(12353 ≤ n ∧ n ≤ 12435)) (k : ¬(12449 ≤ n ∧ n ≤ 12534)) : spA n = 0 ∧ spB n = 0 ∧ spOk n = false := by
  unfold spA spB spOk; rw [if_neg h, if_neg h, if_neg h, if_neg k, if_neg k, if_neg k]; exact ⟨rfl, rfl, rfl⟩
/-- Two bytes that stand for a sign come back of it. -/
theorem sp_ps {hi lo : Int} (h : psOk hi lo = true) : spA (psN hi lo) = hi ∧ spB (psN hi lo) = lo ∧ spOk (psN hi lo) = true := by
  by_cases h1 : hi = 164 ∧ 161 ≤ lo ∧ lo ≤ 243
  · rw [(ps_one h1.1 h1.2.1 h1.2.2).1]
    obtain ⟨a, b, c⟩ := sp_one (n := 12192 + lo) (by omega) (by omega)
    exact ⟨by omega, by omega, c⟩
  · by_cases h2 : hi = 165 ∧ 161 ≤ lo ∧ lo ≤ 246
    · rw [(ps_two h2.1 h2.2.1 h2.2.2).1]
      obtain ⟨a, b, c⟩ := sp_two (n := 12288 + lo) (by omega) (by omega)
      exact ⟨by omega, by omega, c⟩
    · rw [(ps_no h1 h2).2] at h; cases h
/-- A sign of two bytes is no sign of one. -/
theorem ps_big {hi lo : Int} (h : psOk hi lo = true) : 12353 ≤ psN hi lo ∧ psN hi lo ≤ 12534 ∧ 164 ≤ hi ∧ hi ≤ 165 ∧ 161 ≤ lo ∧ lo ≤ 246 := by
  by_cases h1 : hi = 164 ∧ 161 ≤ lo ∧ lo ≤ 243
  · rw [(ps_one h1.1 h1.2.1 h1.2.2).1]; omega
  · by_cases h2 : hi = 165 ∧ 161 ≤ lo ∧ lo ≤ 246
    · rw [(ps_two h2.1 h2.2.1 h2.2.2).1]; omega
    · rw [(ps_no h1 h2).2] at h; cases h
theorem sp_in (n : Int) : 0 ≤ spA n ∧ spA n ≤ 255 ∧ 0 ≤ spB n ∧ spB n ≤ 255 := by
  by_cases h1 : 12353 ≤ n ∧ n ≤ 12435
  · obtain ⟨a, b, _⟩ := sp_one h1.1 h1.2; omega
  · by_cases h2 : 12449 ≤ n ∧ n ≤ 12534
    · obtain ⟨a, b, _⟩ := sp_two h2.1 h2.2; omega
    · obtain ⟨a, b, _⟩ := sp_no h1 h2; omega

def pairT : List Int := [164, 243, 12353, 165, 246, 12449]
/-- The program's table of pairs lies in its variable. -/
structure PairsAt (w : World) : Prop where
  out : ∀ j, j < 6 → w.cell? ⟨0, j, none⟩ = some (.int .i64 (pairT.getD j 0))
theorem PairsAt.below {w w' : World} (h : PairsAt w) (hb : Below w.heap.size w w') : PairsAt w' := ⟨fun j hj => cell_below (h.out j hj) hb⟩
/-- The cells of the table, one by one. -/
theorem PairsAt.cells {w : World} (h : PairsAt w) : w.cell? ⟨0, 0, none⟩ = some (.int .i64 164) ∧ w.cell? ⟨0, 1, none⟩ = some (.int .i64 243) ∧ w.cell? ⟨0, 2, none⟩ = some (.int .i64 12353) ∧ w.cell? ⟨0, 3, none⟩ = some (.int .i64 165) ∧ w.cell? ⟨0, 4, none⟩ = some (.int .i64 246) ∧ w.cell? ⟨0, 5, none⟩ = some (.int .i64 12449) :=
  ⟨h.out 0 (by omega), h.out 1 (by omega), h.out 2 (by omega), h.out 3 (by omega), h.out 4 (by omega), h.out 5 (by omega)⟩

theorem row_zero (w : World) : (Instr.index 114 (.agg #[.int .i64 164, .int .i64 243, .int .i64 12353, .int .i64 165, .int .i64 246, .int .i64 12449]) (.int .i64 0)).run Tryz.prog w = .ok (.agg #[.int .i64 164, .int .i64 243, .int .i64 12353]) w := by kernel_rfl

theorem row_one (w : World) : (Instr.index 114 (.agg #[.int .i64 164, .int .i64 243, .int .i64 12353, .int .i64 165, .int .i64 246, .int .i64 12449]) (.int .i64 1)).run Tryz.prog w = .ok (.agg #[.int .i64 165, .int .i64 246, .int .i64 12449]) w := by kernel_rfl

set_option maxHeartbeats 400000 in
theorem implPairSign_one (hi lo : Int) (w : World) (T : Hd (PairsAt w)) (h : hi = 164) (h1 : 161 ≤ lo) (h2 : lo ≤ 243) :
    Calls Tryz.prog 119 #[.int .i64 hi, .int .i64 lo] w fun e w' => e = .returned (.tuple #[.int .i64 (psN hi lo), .bool (psOk hi lo)]) ∧ Below w.heap.size w w' := by
  obtain ⟨c0, c1, c2, c3, c4, c5⟩ := T.out.cells
  have x0 := row_zero w
  have E1 : Hd (12353 + lo - 161 = psN hi lo) := ⟨by rw [(ps_one h h1 h2).1]; omega⟩
  have E2 : Hd (true = psOk hi lo) := ⟨(ps_one h h1 h2).2.symm⟩
  go_enter Tryz.func119, Tryz.ntmps119
  go_wp2_with fail
  refine wp_loop_rounds 1 ?_
  rw [rounds_succ]
  go_wp2_with fail
  go_ret2
  exact ⟨ret_pair E1.out E2.out, below_lit _ _⟩

set_option maxHeartbeats 400000 in
theorem implPairSign_two (hi lo : Int) (w : World) (T : Hd (PairsAt w)) (h : hi = 165) (h1 : 161 ≤ lo) (h2 : lo ≤ 246) :
    Calls Tryz.prog 119 #[.int .i64 hi, .int .i64 lo] w fun e w' => e = .returned (.tuple #[.int .i64 (psN hi lo), .bool (psOk hi lo)]) ∧ Below w.heap.size w w' := by
  obtain ⟨c0, c1, c2, c3, c4, c5⟩ := T.out.cells
  have x0 := row_zero w
  have x1 := row_one (w.alloc (.cells #[.int .i64 164, .int .i64 243, .int .i64 12353] 113))
  have E1 : Hd (12449 + lo - 161 = psN hi lo) := ⟨by rw [(ps_two h h1 h2).1]; omega⟩
  have E2 : Hd (true = psOk hi lo) := ⟨(ps_two h h1 h2).2.symm⟩
  go_enter Tryz.func119, Tryz.ntmps119
  go_wp2_with fail
  refine wp_loop_rounds 2 ?_
  rw [rounds_succ]
  go_wp2_with fail
  rw [rounds_succ]
  go_wp2_with fail
  go_ret2
  exact ⟨ret_pair E1.out E2.out, below_lit2 _ _ _⟩

set_option maxHeartbeats 400000 in
theorem implPairSign_noa (hi lo : Int) (w : World) (T : Hd (PairsAt w)) (h : hi < 164) :
    Calls Tryz.prog 119 #[.int .i64 hi, .int .i64 lo] w fun e w' => e = .returned (.tuple #[.int .i64 (psN hi lo), .bool (psOk hi lo)]) ∧ Below w.heap.size w w' := by
  obtain ⟨c0, c1, c2, c3, c4, c5⟩ := T.out.cells
  have x0 := row_zero w
  have x1 := row_one (w.alloc (.cells #[.int .i64 164, .int .i64 243, .int .i64 12353] 113))
  have E1 : Hd ((0 : Int) = psN hi lo) := ⟨(ps_no (by omega) (by omega)).1.symm⟩
  have E2 : Hd (false = psOk hi lo) := ⟨(ps_no (by omega) (by omega)).2.symm⟩
  go_enter Tryz.func119, Tryz.ntmps119
  go_wp2_with fail
  refine wp_loop_rounds 3 ?_
  rw [rounds_succ]
  go_wp2_with fail
  rw [rounds_succ]
  go_wp2_with fail
  rw [rounds_succ]
  go_wp2_with fail
  go_ret2
  exact ⟨ret_pair E1.out E2.out, below_lit2 _ _ _⟩

set_option maxHeartbeats 400000 in
theorem implPairSign_nob (hi lo : Int) (w : World) (T : Hd (PairsAt w)) (h : 165 < hi) :
    Calls Tryz.prog 119 #[.int .i64 hi, .int .i64 lo] w fun e w' => e = .returned (.tuple #[.int .i64 (psN hi lo), .bool (psOk hi lo)]) ∧ Below w.heap.size w w' := by
  obtain ⟨c0, c1, c2, c3, c4, c5⟩ := T.out.cells
  have x0 := row_zero w
  have x1 := row_one (w.alloc (.cells #[.int .i64 164, .int .i64 243, .int .i64 12353] 113))
  have E1 : Hd ((0 : Int) = psN hi lo) := ⟨(ps_no (by omega) (by omega)).1.symm⟩
  have E2 : Hd (false = psOk hi lo) := ⟨(ps_no (by omega) (by omega)).2.symm⟩
  go_enter Tryz.func119, Tryz.ntmps119
  go_wp2_with fail
  refine wp_loop_rounds 3 ?_
  rw [rounds_succ]
  go_wp2_with fail
  rw [rounds_succ]
  go_wp2_with fail
  rw [rounds_succ]
  go_wp2_with fail
  go_ret2
  exact ⟨ret_pair E1.out E2.out, below_lit2 _ _ _⟩

set_option maxHeartbeats 400000 in
theorem implPairSign_noc (hi lo : Int) (w : World) (T : Hd (PairsAt w)) (h : hi = 164) (h1 : lo < 161) :
    Calls Tryz.prog 119 #[.int .i64 hi, .int .i64 lo] w fun e w' => e = .returned (.tuple #[.int .i64 (psN hi lo), .bool (psOk hi lo)]) ∧ Below w.heap.size w w' := by
  obtain ⟨c0, c1, c2, c3, c4, c5⟩ := T.out.cells
  have x0 := row_zero w
  have x1 := row_one (w.alloc (.cells #[.int .i64 164, .int .i64 243, .int .i64 12353] 113))
  have E1 : Hd ((0 : Int) = psN hi lo) := ⟨(ps_no (by omega) (by omega)).1.symm⟩
  have E2 : Hd (false = psOk hi lo) := ⟨(ps_no (by omega) (by omega)).2.symm⟩
  go_enter Tryz.func119, Tryz.ntmps119
  go_wp2_with fail
  refine wp_loop_rounds 3 ?_
  rw [rounds_succ]
  go_wp2_with fail
  rw [rounds_succ]
  go_wp2_with fail
  rw [rounds_succ]
  go_wp2_with fail
  go_ret2
  exact ⟨ret_pair E1.out E2.out, below_lit2 _ _ _⟩

set_option maxHeartbeats 400000 in
theorem implPairSign_nod (hi lo : Int) (w : World) (T : Hd (PairsAt w)) (h : hi = 164) (h1 : 243 < lo) :
    Calls Tryz.prog 119 #[.int .i64 hi, .int .i64 lo] w fun e w' => e = .returned (.tuple #[.int .i64 (psN hi lo), .bool (psOk hi lo)]) ∧ Below w.heap.size w w' := by
  obtain ⟨c0, c1, c2, c3, c4, c5⟩ := T.out.cells
  have x0 := row_zero w
  have x1 := row_one (w.alloc (.cells #[.int .i64 164, .int .i64 243, .int .i64 12353] 113))
  have E1 : Hd ((0 : Int) = psN hi lo) := ⟨(ps_no (by omega) (by omega)).1.symm⟩
  have E2 : Hd (false = psOk hi lo) := ⟨(ps_no (by omega) (by omega)).2.symm⟩
  go_enter Tryz.func119, Tryz.ntmps119
  go_wp2_with fail
  refine wp_loop_rounds 3 ?_
  rw [rounds_succ]
  go_wp2_with fail
  rw [rounds_succ]
  go_wp2_with fail
  rw [rounds_succ]
  go_wp2_with fail
  go_ret2
  exact ⟨ret_pair E1.out E2.out, below_lit2 _ _ _⟩

set_option maxHeartbeats 400000 in
theorem implPairSign_noe (hi lo : Int) (w : World) (T : Hd (PairsAt w)) (h : hi = 165) (h1 : lo < 161) :
    Calls Tryz.prog 119 #[.int .i64 hi, .int .i64 lo] w fun e w' => e = .returned (.tuple #[.int .i64 (psN hi lo), .bool (psOk hi lo)]) ∧ Below w.heap.size w w' := by
  obtain ⟨c0, c1, c2, c3, c4, c5⟩ := T.out.cells
  have x0 := row_zero w
  have x1 := row_one (w.alloc (.cells #[.int .i64 164, .int .i64 243, .int .i64 12353] 113))
  have E1 : Hd ((0 : Int) = psN hi lo) := ⟨(ps_no (by omega) (by omega)).1.symm⟩
  have E2 : Hd (false = psOk hi lo) := ⟨(ps_no (by omega) (by omega)).2.symm⟩
  go_enter Tryz.func119, Tryz.ntmps119
  go_wp2_with fail
  refine wp_loop_rounds 3 ?_
  rw [rounds_succ]
  go_wp2_with fail
  rw [rounds_succ]
  go_wp2_with fail
  rw [rounds_succ]
  go_wp2_with fail
  go_ret2
  exact ⟨ret_pair E1.out E2.out, below_lit2 _ _ _⟩

set_option maxHeartbeats 400000 in
theorem implPairSign_nof (hi lo : Int) (w : World) (T : Hd (PairsAt w)) (h : hi = 165) (h1 : 246 < lo) :
    Calls Tryz.prog 119 #[.int .i64 hi, .int .i64 lo] w fun e w' => e = .returned (.tuple #[.int .i64 (psN hi lo), .bool (psOk hi lo)]) ∧ Below w.heap.size w w' := by
  obtain ⟨c0, c1, c2, c3, c4, c5⟩ := T.out.cells
  have x0 := row_zero w
  have x1 := row_one (w.alloc (.cells #[.int .i64 164, .int .i64 243, .int .i64 12353] 113))
  have E1 : Hd ((0 : Int) = psN hi lo) := ⟨(ps_no (by omega) (by omega)).1.symm⟩
  have E2 : Hd (false = psOk hi lo) := ⟨(ps_no (by omega) (by omega)).2.symm⟩
  go_enter Tryz.func119, Tryz.ntmps119
  go_wp2_with fail
  refine wp_loop_rounds 3 ?_
  rw [rounds_succ]
  go_wp2_with fail
  rw [rounds_succ]
  go_wp2_with fail
  rw [rounds_succ]
  go_wp2_with fail
  go_ret2
  exact ⟨ret_pair E1.out E2.out, below_lit2 _ _ _⟩

theorem implPairSign_any (hi lo : Int) (w : World) (T : Hd (PairsAt w)) :
    Calls Tryz.prog 119 #[.int .i64 hi, .int .i64 lo] w fun e w' => e = .returned (.tuple #[.int .i64 (psN hi lo), .bool (psOk hi lo)]) ∧ Below w.heap.size w w' := by
  rcases (show hi < 164 ∨ 165 < hi ∨ (hi = 164 ∧ lo < 161) ∨ (hi = 164 ∧ 243 < lo) ∨ (hi = 165 ∧ lo < 161) ∨ (hi = 165 ∧ 246 < lo) ∨ (hi = 164 ∧ 161 ≤ lo ∧ lo ≤ 243) ∨ (hi = 165 ∧ 161 ≤ lo ∧ lo ≤ 246) from by omega) with h | h | h | h | h | h | h | h
  · exact implPairSign_noa hi lo w T h
  · exact implPairSign_nob hi lo w T h
  · exact implPairSign_noc hi lo w T h.1 h.2
  · exact implPairSign_nod hi lo w T h.1 h.2
  · exact implPairSign_noe hi lo w T h.1 h.2
  · exact implPairSign_nof hi lo w T h.1 h.2
  · exact implPairSign_one hi lo w T h.1 h.2.1 h.2.2
  · exact implPairSign_two hi lo w T h.1 h.2.1 h.2.2

set_option maxHeartbeats 400000 in
theorem specPairSign_one (hi lo : Int) (w : World) (h : hi = 164) (h1 : 161 ≤ lo) (h2 : lo ≤ 243) :
    Calls Tryz.prog 109 #[.int .i64 hi, .int .i64 lo] w fun e w' => e = .returned (.tuple #[.int .i64 (psN hi lo), .bool (psOk hi lo)]) ∧ w' = w := by
  have E1 : Hd (12353 + lo - 161 = psN hi lo) := ⟨by rw [(ps_one h h1 h2).1]; omega⟩
  have E2 : Hd (true = psOk hi lo) := ⟨(ps_one h h1 h2).2.symm⟩
  have i1 := in_t (x := lo) (lo := 161) (hi := 243) ⟨h1, h2⟩
  go_enter Tryz.func109, Tryz.ntmps109
  go_wp2_with (go_at_call 40; refine (l1In_any _ _ _ _).mono ?_; rintro e w' ⟨rfl, hw⟩; replace hw := hw.symm; subst hw)
  go_ret2
  exact ⟨ret_pair E1.out E2.out, rfl⟩

set_option maxHeartbeats 400000 in
theorem specPairSign_two (hi lo : Int) (w : World) (h : hi = 165) (h1 : 161 ≤ lo) (h2 : lo ≤ 246) :
    Calls Tryz.prog 109 #[.int .i64 hi, .int .i64 lo] w fun e w' => e = .returned (.tuple #[.int .i64 (psN hi lo), .bool (psOk hi lo)]) ∧ w' = w := by
  have E1 : Hd (12449 + lo - 161 = psN hi lo) := ⟨by rw [(ps_two h h1 h2).1]; omega⟩
  have E2 : Hd (true = psOk hi lo) := ⟨(ps_two h h1 h2).2.symm⟩
  have i1 := in_t (x := lo) (lo := 161) (hi := 246) ⟨h1, h2⟩
  go_enter Tryz.func109, Tryz.ntmps109
  go_wp2_with (go_at_call 40; refine (l1In_any _ _ _ _).mono ?_; rintro e w' ⟨rfl, hw⟩; replace hw := hw.symm; subst hw)
  go_ret2
  exact ⟨ret_pair E1.out E2.out, rfl⟩

set_option maxHeartbeats 400000 in
theorem specPairSign_noa (hi lo : Int) (w : World) (h : hi < 164) :
    Calls Tryz.prog 109 #[.int .i64 hi, .int .i64 lo] w fun e w' => e = .returned (.tuple #[.int .i64 (psN hi lo), .bool (psOk hi lo)]) ∧ w' = w := by
  have E1 : Hd ((0 : Int) = psN hi lo) := ⟨(ps_no (by omega) (by omega)).1.symm⟩
  have E2 : Hd (false = psOk hi lo) := ⟨(ps_no (by omega) (by omega)).2.symm⟩
  go_enter Tryz.func109, Tryz.ntmps109
  go_wp2_with (go_at_call 40; refine (l1In_any _ _ _ _).mono ?_; rintro e w' ⟨rfl, hw⟩; replace hw := hw.symm; subst hw)
  go_ret2
  exact ⟨ret_pair E1.out E2.out, rfl⟩

set_option maxHeartbeats 400000 in
theorem specPairSign_nob (hi lo : Int) (w : World) (h : 165 < hi) :
    Calls Tryz.prog 109 #[.int .i64 hi, .int .i64 lo] w fun e w' => e = .returned (.tuple #[.int .i64 (psN hi lo), .bool (psOk hi lo)]) ∧ w' = w := by
  have E1 : Hd ((0 : Int) = psN hi lo) := ⟨(ps_no (by omega) (by omega)).1.symm⟩
  have E2 : Hd (false = psOk hi lo) := ⟨(ps_no (by omega) (by omega)).2.symm⟩
  go_enter Tryz.func109, Tryz.ntmps109
  go_wp2_with (go_at_call 40; refine (l1In_any _ _ _ _).mono ?_; rintro e w' ⟨rfl, hw⟩; replace hw := hw.symm; subst hw)
  go_ret2
  exact ⟨ret_pair E1.out E2.out, rfl⟩

set_option maxHeartbeats 400000 in
theorem specPairSign_noc (hi lo : Int) (w : World) (h : hi = 164) (h1 : ¬(161 ≤ lo ∧ lo ≤ 243)) :
    Calls Tryz.prog 109 #[.int .i64 hi, .int .i64 lo] w fun e w' => e = .returned (.tuple #[.int .i64 (psN hi lo), .bool (psOk hi lo)]) ∧ w' = w := by
  have E1 : Hd ((0 : Int) = psN hi lo) := ⟨(ps_no (by omega) (by omega)).1.symm⟩
  have E2 : Hd (false = psOk hi lo) := ⟨(ps_no (by omega) (by omega)).2.symm⟩
  have i1 := in_f (x := lo) (lo := 161) (hi := 243) h1
  clear h1
  go_enter Tryz.func109, Tryz.ntmps109
  go_wp2_with (go_at_call 40; refine (l1In_any _ _ _ _).mono ?_; rintro e w' ⟨rfl, hw⟩; replace hw := hw.symm; subst hw)
  go_ret2
  exact ⟨ret_pair E1.out E2.out, rfl⟩

set_option maxHeartbeats 400000 in
theorem specPairSign_nod (hi lo : Int) (w : World) (h : hi = 165) (h1 : ¬(161 ≤ lo ∧ lo ≤ 246)) :
    Calls Tryz.prog 109 #[.int .i64 hi, .int .i64 lo] w fun e w' => e = .returned (.tuple #[.int .i64 (psN hi lo), .bool (psOk hi lo)]) ∧ w' = w := by
  have E1 : Hd ((0 : Int) = psN hi lo) := ⟨(ps_no (by omega) (by omega)).1.symm⟩
  have E2 : Hd (false = psOk hi lo) := ⟨(ps_no (by omega) (by omega)).2.symm⟩
  have i1 := in_f (x := lo) (lo := 161) (hi := 246) h1
  clear h1
  go_enter Tryz.func109, Tryz.ntmps109
  go_wp2_with (go_at_call 40; refine (l1In_any _ _ _ _).mono ?_; rintro e w' ⟨rfl, hw⟩; replace hw := hw.symm; subst hw)
  go_ret2
  exact ⟨ret_pair E1.out E2.out, rfl⟩

theorem specPairSign_any (hi lo : Int) (w : World) :
    Calls Tryz.prog 109 #[.int .i64 hi, .int .i64 lo] w fun e w' => e = .returned (.tuple #[.int .i64 (psN hi lo), .bool (psOk hi lo)]) ∧ w' = w := by
  rcases (show hi < 164 ∨ 165 < hi ∨ (hi = 164 ∧ ¬(161 ≤ lo ∧ lo ≤ 243)) ∨ (hi = 165 ∧ ¬(161 ≤ lo ∧ lo ≤ 246)) ∨ (hi = 164 ∧ 161 ≤ lo ∧ lo ≤ 243) ∨ (hi = 165 ∧ 161 ≤ lo ∧ lo ≤ 246) from by omega) with h | h | h | h | h | h
  · exact specPairSign_noa hi lo w h
  · exact specPairSign_nob hi lo w h
  · exact specPairSign_noc hi lo w h.1 h.2
  · exact specPairSign_nod hi lo w h.1 h.2
  · exact specPairSign_one hi lo w h.1 h.2.1 h.2.2
  · exact specPairSign_two hi lo w h.1 h.2.1 h.2.2

set_option maxHeartbeats 400000 in
theorem implSignPair_one (n : Int) (w : World) (T : Hd (PairsAt w)) (h1 : 12353 ≤ n) (h2 : n ≤ 12435) :
    Calls Tryz.prog 111 #[.int .i64 n] w fun e w' => e = .returned (.tuple #[.int .i64 (spA n), .int .i64 (spB n), .bool (spOk n)]) ∧ Below w.heap.size w w' := by
  obtain ⟨c0, c1, c2, c3, c4, c5⟩ := T.out.cells
  have x0 := row_zero w
  have E1 : Hd ((164 : Int) = spA n) := ⟨(sp_one h1 h2).1.symm⟩
  have E2 : Hd (161 + n - 12353 = spB n) := ⟨by rw [(sp_one h1 h2).2.1]; omega⟩
  have E3 : Hd (true = spOk n) := ⟨(sp_one h1 h2).2.2.symm⟩
  go_enter Tryz.func111, Tryz.ntmps111
  go_wp2_with fail
  refine wp_loop_rounds 1 ?_
  rw [rounds_succ]
  go_wp2_with fail
  go_quiet (fail)
  go_wp2_with fail
  go_ret3
  exact ⟨ret3_int E1.out E2.out E3.out, (below_lit _ _).trans (below_drewN' _ _ _)⟩

set_option maxHeartbeats 400000 in
theorem implSignPair_two (n : Int) (w : World) (T : Hd (PairsAt w)) (h1 : 12449 ≤ n) (h2 : n ≤ 12534) :
    Calls Tryz.prog 111 #[.int .i64 n] w fun e w' => e = .returned (.tuple #[.int .i64 (spA n), .int .i64 (spB n), .bool (spOk n)]) ∧ Below w.heap.size w w' := by
  obtain ⟨c0, c1, c2, c3, c4, c5⟩ := T.out.cells
  have x0 := row_zero w
  have x1 := row_one (w.alloc (.cells #[.int .i64 164, .int .i64 243, .int .i64 12353] 113))
  have E1 : Hd ((165 : Int) = spA n) := ⟨(sp_two h1 h2).1.symm⟩
  have E2 : Hd (161 + n - 12449 = spB n) := ⟨by rw [(sp_two h1 h2).2.1]; omega⟩
  have E3 : Hd (true = spOk n) := ⟨(sp_two h1 h2).2.2.symm⟩
  go_enter Tryz.func111, Tryz.ntmps111
  go_wp2_with fail
  refine wp_loop_rounds 2 ?_
  rw [rounds_succ]
  go_wp2_with fail
  rw [rounds_succ]
  go_wp2_with fail
  go_quiet (fail)
  go_wp2_with fail
  go_ret3
  exact ⟨ret3_int E1.out E2.out E3.out, (below_lit2 _ _ _).trans (below_drewN' _ _ _)⟩

set_option maxHeartbeats 400000 in
theorem implSignPair_noa (n : Int) (w : World) (T : Hd (PairsAt w)) (h1 : n < 12353) :
    Calls Tryz.prog 111 #[.int .i64 n] w fun e w' => e = .returned (.tuple #[.int .i64 (spA n), .int .i64 (spB n), .bool (spOk n)]) ∧ Below w.heap.size w w' := by
  obtain ⟨c0, c1, c2, c3, c4, c5⟩ := T.out.cells
  have x0 := row_zero w
  have x1 := row_one (w.alloc (.cells #[.int .i64 164, .int .i64 243, .int .i64 12353] 113))
  have E1 : Hd ((0 : Int) = spA n) := ⟨(sp_no (by omega) (by omega)).1.symm⟩
  have E2 : Hd ((0 : Int) = spB n) := ⟨(sp_no (by omega) (by omega)).2.1.symm⟩
  have E3 : Hd (false = spOk n) := ⟨(sp_no (by omega) (by omega)).2.2.symm⟩
  go_enter Tryz.func111, Tryz.ntmps111
  go_wp2_with fail
  refine wp_loop_rounds 3 ?_
  rw [rounds_succ]
  go_wp2_with fail
  rw [rounds_succ]
  go_wp2_with fail
  rw [rounds_succ]
  go_wp2_with fail
  go_ret3
  exact ⟨ret3_int E1.out E2.out E3.out, below_lit2 _ _ _⟩

set_option maxHeartbeats 400000 in
theorem implSignPair_nob (n : Int) (w : World) (T : Hd (PairsAt w)) (h1 : 12435 < n) (h2 : n < 12449) :
    Calls Tryz.prog 111 #[.int .i64 n] w fun e w' => e = .returned (.tuple #[.int .i64 (spA n), .int .i64 (spB n), .bool (spOk n)]) ∧ Below w.heap.size w w' := by
  obtain ⟨c0, c1, c2, c3, c4, c5⟩ := T.out.cells
  have x0 := row_zero w
  have x1 := row_one (w.alloc (.cells #[.int .i64 164, .int .i64 243, .int .i64 12353] 113))
  have E1 : Hd ((0 : Int) = spA n) := ⟨(sp_no (by omega) (by omega)).1.symm⟩
  have E2 : Hd ((0 : Int) = spB n) := ⟨(sp_no (by omega) (by omega)).2.1.symm⟩
  have E3 : Hd (false = spOk n) := ⟨(sp_no (by omega) (by omega)).2.2.symm⟩
  go_enter Tryz.func111, Tryz.ntmps111
  go_wp2_with fail
  refine wp_loop_rounds 3 ?_
  rw [rounds_succ]
  go_wp2_with fail
  rw [rounds_succ]
  go_wp2_with fail
  rw [rounds_succ]
  go_wp2_with fail
  go_ret3
  exact ⟨ret3_int E1.out E2.out E3.out, below_lit2 _ _ _⟩

set_option maxHeartbeats 400000 in
theorem implSignPair_noc (n : Int) (w : World) (T : Hd (PairsAt w)) (h1 : 12534 < n) (h2 : n ≤ 9223372036854775807) :
    Calls Tryz.prog 111 #[.int .i64 n] w fun e w' => e = .returned (.tuple #[.int .i64 (spA n), .int .i64 (spB n), .bool (spOk n)]) ∧ Below w.heap.size w w' := by
  obtain ⟨c0, c1, c2, c3, c4, c5⟩ := T.out.cells
  have x0 := row_zero w
  have x1 := row_one (w.alloc (.cells #[.int .i64 164, .int .i64 243, .int .i64 12353] 113))
  have E1 : Hd ((0 : Int) = spA n) := ⟨(sp_no (by omega) (by omega)).1.symm⟩
  have E2 : Hd ((0 : Int) = spB n) := ⟨(sp_no (by omega) (by omega)).2.1.symm⟩
  have E3 : Hd (false = spOk n) := ⟨(sp_no (by omega) (by omega)).2.2.symm⟩
  go_enter Tryz.func111, Tryz.ntmps111
  go_wp2_with fail
  refine wp_loop_rounds 3 ?_
  rw [rounds_succ]
  go_wp2_with fail
  rw [rounds_succ]
  go_wp2_with fail
  rw [rounds_succ]
  go_wp2_with fail
  go_ret3
  exact ⟨ret3_int E1.out E2.out E3.out, below_lit2 _ _ _⟩

theorem implSignPair_any (n : Int) (w : World) (T : Hd (PairsAt w)) (hn : n ≤ 9223372036854775807) :
    Calls Tryz.prog 111 #[.int .i64 n] w fun e w' => e = .returned (.tuple #[.int .i64 (spA n), .int .i64 (spB n), .bool (spOk n)]) ∧ Below w.heap.size w w' := by
  rcases (show n < 12353 ∨ (12435 < n ∧ n < 12449) ∨ 12534 < n ∨ (12353 ≤ n ∧ n ≤ 12435) ∨ (12449 ≤ n ∧ n ≤ 12534) from by omega) with h | h | h | h | h
  · exact implSignPair_noa n w T h
  · exact implSignPair_nob n w T h.1 h.2
  · exact implSignPair_noc n w T h hn
  · exact implSignPair_one n w T h.1 h.2
  · exact implSignPair_two n w T h.1 h.2

set_option maxHeartbeats 400000 in
theorem specSignPair_one (n : Int) (w : World) (h1 : 12353 ≤ n) (h2 : n ≤ 12435) :
    Calls Tryz.prog 106 #[.int .i64 n] w fun e w' => e = .returned (.tuple #[.int .i64 (spA n), .int .i64 (spB n), .bool (spOk n)]) ∧ w' = w := by
  have E1 : Hd ((164 : Int) = spA n) := ⟨(sp_one h1 h2).1.symm⟩
  have E2 : Hd (n - 12353 + 161 = spB n) := ⟨by rw [(sp_one h1 h2).2.1]; omega⟩
  have E3 : Hd (true = spOk n) := ⟨(sp_one h1 h2).2.2.symm⟩
  have i1 := in_t (x := n) (lo := 12353) (hi := 12435) ⟨h1, h2⟩
  go_enter Tryz.func106, Tryz.ntmps106
  go_wp2_with (go_at_call 40; refine (l1In_any _ _ _ _).mono ?_; rintro e w' ⟨rfl, hw⟩; replace hw := hw.symm; subst hw)
  go_ret3
  exact ⟨ret3_int E1.out E2.out E3.out, rfl⟩

set_option maxHeartbeats 400000 in
theorem specSignPair_two (n : Int) (w : World) (h1 : 12449 ≤ n) (h2 : n ≤ 12534) :
    Calls Tryz.prog 106 #[.int .i64 n] w fun e w' => e = .returned (.tuple #[.int .i64 (spA n), .int .i64 (spB n), .bool (spOk n)]) ∧ w' = w := by
  have E1 : Hd ((165 : Int) = spA n) := ⟨(sp_two h1 h2).1.symm⟩
  have E2 : Hd (n - 12449 + 161 = spB n) := ⟨by rw [(sp_two h1 h2).2.1]; omega⟩
  have E3 : Hd (true = spOk n) := ⟨(sp_two h1 h2).2.2.symm⟩
  have i1 := in_f (x := n) (lo := 12353) (hi := 12435) (by omega)
  have i2 := in_t (x := n) (lo := 12449) (hi := 12534) ⟨h1, h2⟩
  go_enter Tryz.func106, Tryz.ntmps106
  go_wp2_with (go_at_call 40; refine (l1In_any _ _ _ _).mono ?_; rintro e w' ⟨rfl, hw⟩; replace hw := hw.symm; subst hw)
  go_ret3
  exact ⟨ret3_int E1.out E2.out E3.out, rfl⟩

set_option maxHeartbeats 400000 in
theorem specSignPair_no (n : Int) (w : World) (h1 : ¬(12353 ≤ n ∧ n ≤ 12435)) (h2 : ¬(12449 ≤ n ∧ n ≤ 12534)) :
    Calls Tryz.prog 106 #[.int .i64 n] w fun e w' => e = .returned (.tuple #[.int .i64 (spA n), .int .i64 (spB n), .bool (spOk n)]) ∧ w' = w := by
  have E1 : Hd ((0 : Int) = spA n) := ⟨(sp_no (by omega) (by omega)).1.symm⟩
  have E2 : Hd ((0 : Int) = spB n) := ⟨(sp_no (by omega) (by omega)).2.1.symm⟩
  have E3 : Hd (false = spOk n) := ⟨(sp_no (by omega) (by omega)).2.2.symm⟩
  have i1 := in_f (x := n) (lo := 12353) (hi := 12435) h1
  have i2 := in_f (x := n) (lo := 12449) (hi := 12534) h2
  clear h1 h2
  go_enter Tryz.func106, Tryz.ntmps106
  go_wp2_with (go_at_call 40; refine (l1In_any _ _ _ _).mono ?_; rintro e w' ⟨rfl, hw⟩; replace hw := hw.symm; subst hw)
  go_ret3
  exact ⟨ret3_int E1.out E2.out E3.out, rfl⟩

theorem specSignPair_any (n : Int) (w : World) :
    Calls Tryz.prog 106 #[.int .i64 n] w fun e w' => e = .returned (.tuple #[.int .i64 (spA n), .int .i64 (spB n), .bool (spOk n)]) ∧ w' = w := by
  rcases (show (¬(12353 ≤ n ∧ n ≤ 12435) ∧ ¬(12449 ≤ n ∧ n ≤ 12534)) ∨ (12353 ≤ n ∧ n ≤ 12435) ∨ (12449 ≤ n ∧ n ≤ 12534) from by omega) with h | h | h
  · exact specSignPair_no n w h.1 h.2
  · exact specSignPair_one n w h.1 h.2
  · exact specSignPair_two n w h.1 h.2

end Go.Proofs.YtpafjehphajbhaaGreatDoor
