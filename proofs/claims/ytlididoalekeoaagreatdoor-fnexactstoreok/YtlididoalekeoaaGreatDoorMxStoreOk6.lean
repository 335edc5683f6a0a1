/- Parts of the proof, one behind the other. -/
import Derived.Test.YtlididoalekeoaaGreatDoorMxStoreOk1
/- Parts of the proof, one behind the other. -/
/- Plain facts on signs of two bytes: which sign two bytes stand for, and back. Contracts of PairSign and SignPair, in the program (over its table) and in the specification. Contracts of SignPair, in the program (over its table) and in the specification. Contracts of EucSign, in the program (over its table) and in the specification. Contracts of EucSign at every place, in the program and in the specification. Plain facts on the bytes of a sign in the set of two bytes. -/
namespace Go.Proofs.YtlididoalekeoaaGreatDoor
set_option maxRecDepth 4000
open Go.RowKit

/-- The sign of two bytes (0 beside a false), and whether there is one. -/
def psN (hi lo : Int) : Int := if hi = 164 ∧ 161 ≤ lo ∧ lo ≤ 243 then 12192 + lo else if hi = 165 ∧ 161 ≤ lo ∧ lo ≤ 246 then 12288 + lo else 0
def psOk (hi lo : Int) : Bool := if hi = 164 ∧ 161 ≤ lo ∧ lo ≤ 243 then true else if hi = 165 ∧ 161 ≤ lo ∧ lo ≤ 246 then true else false
/-- The two bytes of a sign (0 and 0 beside a false), and whether there are some. -/
def spA (n : Int) : Int := if 12353 ≤ n ∧ n ≤ 12435 then 164 else if 12449 ≤ n ∧ n ≤ 12534 then 165 else 0
def spB (n : Int) : Int := if 12353 ≤ n ∧ n ≤ 12435 then n - 12192 else if 12449 ≤ n ∧ n ≤ 12534 then n - 12288 else 0
def spOk (n : Int) : Bool := if 12353 ≤ n ∧ n ≤ 12435 then true else if 12449 ≤ n ∧ n ≤ 12534 then true else false

theorem ps_one {hi lo : Int} (h : hi = 164) (h1 : 161 ≤ lo) (h2 : lo ≤ 243) : psN hi lo = 12192 + lo ∧ psOk hi lo = true := by
  unfold psN psOk; rw [if_pos ⟨h, h1, h2⟩, if_pos ⟨h, h1, h2⟩]; exact ⟨rfl, rfl⟩
theorem ps_two {hi lo : Int} (h : hi = 165) (h1 : 161 ≤ lo) (h2 : lo ≤ 246) : psN hi lo = 12288 + lo ∧ psOk hi lo = true := by
  have k : ¬(hi = 164 ∧ 161 ≤ lo ∧ lo ≤ 243) := by omega
  unfold psN psOk; rw [if_neg k, if_neg k, if_pos ⟨h, h1, h2⟩, if_pos ⟨h, h1, h2⟩]; exact ⟨rfl, rfl⟩
theorem ps_no {hi lo : Int} (h : ¬(hi = 164 ∧ 161 ≤ lo ∧ lo ≤ 243)) (k : ¬(hi = 165 ∧ 161 ≤ lo ∧ lo ≤ 246)) : psN hi lo = 0 ∧ psOk hi lo = false := by
  unfold psN psOk; rw [if_neg h, if_neg h, if_neg k, if_neg k]; exact ⟨rfl, rfl⟩
theorem sp_one {n : Int} (h1 : 12353 ≤ n) (h2 : n ≤ 12435) : spA n = 164 ∧ spB n = n - 12192 ∧ spOk n = true := by
  unfold spA spB spOk; rw [if_pos ⟨h1, h2⟩, if_pos ⟨h1, h2⟩, if_pos ⟨h1, h2⟩]; exact ⟨rfl, rfl, rfl⟩
theorem sp_two {n : Int} (h1 : 12449 ≤ n) (h2 : n ≤ 12534) : spA n = 165 ∧ spB n = n - 12288 ∧ spOk n = true := by
  have k : ¬(12353 ≤ n ∧ n ≤ 12435) := by omega
  unfold spA spB spOk; rw [if_neg k, if_neg k, if_neg k, if_pos ⟨h1, h2⟩, if_pos ⟨h1, h2⟩, if_pos ⟨h1, h2⟩]; exact ⟨rfl, rfl, rfl⟩
theorem sp_no {n : Int} (h : ¬(12353 ≤ n ∧ n ≤ 12435)) (k : ¬(12449 ≤ n ∧ n ≤ 12534)) : spA n = 0 ∧ spB n = 0 ∧ spOk n = false := by
  unfold spA spB spOk; rw [if_neg h, if_neg h, if_neg h, if_neg k, if_neg k, if_neg k]; exact ⟨rfl, rfl, rfl⟩
/-- Two bytes that stand for a sign come back of it. -/
theorem sp_ps {hi lo : Int} (h : psOk hi lo = true) : spA (psN hi lo) = hi ∧ spB (psN hi lo) = lo ∧ spOk (psN hi lo) = true := by
  by_cases h1 : hi = 164 ∧ 161 ≤ lo ∧ lo ≤ 243
  · rw [(ps_one h1.1 h1.2.1 h1.2.2).1]
    obtain ⟨a, b, c⟩ := sp_one (n := 12192 + lo) (by omega) (by omega)
    exact ⟨by omega, by omega, c⟩
  · by_cases h2 : hi = 165 ∧ 161 ≤ lo ∧ lo ≤ 246
    · rw [(ps_two h2.1 h2.2.1 h2.2.2).1]
      obtain ⟨a, b, c⟩ := sp_two (n := 12288 + lo) (by omega) (by omega)
      exact ⟨by omega, by omega, c⟩
    · rw [(ps_no h1 h2).2] at h; cases h
/-- A sign of two bytes is no sign of one. -/
theorem ps_big {hi lo : Int} (h : psOk hi lo = true) : 12353 ≤ psN hi lo ∧ psN hi lo ≤ 12534 ∧ 164 ≤ hi ∧ hi ≤ 165 ∧ 161 ≤ lo ∧ lo ≤ 246 := by
  by_cases h1 : hi = 164 ∧ 161 ≤ lo ∧ lo ≤ 243
  · rw [(ps_one h1.1 h1.2.1 h1.2.2).1]; omega
  · by_cases h2 : hi = 165 ∧ 161 ≤ lo ∧ lo ≤ 246
    · rw [(ps_two h2.1 h2.2.1 h2.2.2).1]; omega
    · rw [(ps_no h1 h2).2] at h; cases h
theorem sp_in (n : Int) : 0 ≤ spA n ∧ spA n ≤ 255 ∧ 0 ≤ spB n ∧ spB n ≤ 255 := by
  by_cases h1 : 12353 ≤ n ∧ n ≤ 12435
  · obtain ⟨a, b, _⟩ := sp_one h1.1 h1.2; omega
  · by_cases h2 : 12449 ≤ n ∧ n ≤ 12534
    · obtain ⟨a, b, _⟩ := sp_two h2.1 h2.2; omega
    · obtain ⟨a, b, _⟩ := sp_no h1 h2; omega

def pairT : List Int := [164, 243, 12353, 165, 246, 12449]
/-- The program's table of pairs lies in its variable. -/
structure PairsAt (w : World) : Prop where
  out : ∀ j, j < 6 → w.cell? ⟨0, j, none⟩ = some (.int .i64 (pairT.getD j 0))
theorem PairsAt.below {w w' : World} (h : PairsAt w) (hb : Below w.heap.size w w') : PairsAt w' := ⟨fun j hj => cell_below (h.out j hj) hb⟩
/-- The cells of the table, one by one. -/
theorem PairsAt.cells {w : World} (h : PairsAt w) : w.cell? ⟨0, 0, none⟩ = some (.int .i64 164) ∧ w.cell? ⟨0, 1, none⟩ = some (.int .i64 243) ∧ w.cell? ⟨0, 2, none⟩ = some (.int .i64 12353) ∧ w.cell? ⟨0, 3, none⟩ = some (.int .i64 165) ∧ w.cell? ⟨0, 4, none⟩ = some (.int .i64 246) ∧ w.cell? ⟨0, 5, none⟩ = some (.int .i64 12449) :=
  ⟨h.out 0 (by omega), h.out 1 (by omega), h.out 2 (by omega), h.out 3 (by omega), h.out 4 (by omega), h.out 5 (by omega)⟩

theorem row_zero (w : World) : (Instr.index 153 (.agg #[.int .i64 164, .int .i64 243, .int .i64 12353, .int .i64 165, .int .i64 246, .int .i64 12449]) (.int .i64 0)).run Tryz.prog w = .ok (.agg #[.int .i64 164, .int .i64 243, .int .i64 12353]) w := by kernel_rfl

theorem row_one (w : World) : (Instr.index 153 (.agg #[.int .i64 164, .int .i64 243, .int .i64 12353, .int .i64 165, .int .i64 246, .int .i64 12449]) (.int .i64 1)).run Tryz.prog w = .ok (.agg #[.int .i64 165, .int .i64 246, .int .i64 12449]) w := by kernel_rfl

set_option maxHeartbeats 400000 in
theorem implPairSign_one (hi lo : Int) (w : World) (T : Hd (PairsAt w)) (h : hi = 164) (h1 : 161 ≤ lo) (h2 : lo ≤ 243) :
    Calls Tryz.prog 112 #[.int .i64 hi, .int .i64 lo] w fun e w' => e = .returned (.tuple #[.int .i64 (psN hi lo), .bool (psOk hi lo)]) ∧ Below w.heap.size w w' := by
  obtain ⟨c0, c1, c2, c3, c4, c5⟩ := T.out.cells
  have x0 := row_zero w
  have E1 : Hd (12353 + lo - 161 = psN hi lo) := ⟨by rw [(ps_one h h1 h2).1]; omega⟩
  have E2 : Hd (true = psOk hi lo) := ⟨(ps_one h h1 h2).2.symm⟩
  go_enter Tryz.func112, Tryz.ntmps112
  go_wp2_with fail
  refine wp_loop_rounds 1 ?_
  rw [rounds_succ]
  go_wp2_with fail
  go_ret2
  exact ⟨ret_pair E1.out E2.out, below_lit _ _⟩

set_option maxHeartbeats 400000 in
theorem implPairSign_two (hi lo : Int) (w : World) (T : Hd (PairsAt w)) (h : hi = 165) (h1 : 161 ≤ lo) (h2 : lo ≤ 246) :
    Calls Tryz.prog 112 #[.int .i64 hi, .int .i64 lo] w fun e w' => e = .returned (.tuple #[.int .i64 (psN hi lo), .bool (psOk hi lo)]) ∧ Below w.heap.size w w' := by
  obtain ⟨c0, c1, c2, c3, c4, c5⟩ := T.out.cells
  have x0 := row_zero w
  have x1 := row_one (w.alloc (.cells #[.int .i64 164, .int .i64 243, .int .i64 12353] 152))
  have E1 : Hd (12449 + lo - 161 = psN hi lo) := ⟨by rw [(ps_two h h1 h2).1]; omega⟩
  have E2 : Hd (true = psOk hi lo) := ⟨(ps_two h h1 h2).2.symm⟩
  go_enter Tryz.func112, Tryz.ntmps112
  go_wp2_with fail
  refine wp_loop_rounds 2 ?_
  rw [rounds_succ]
  go_wp2_with fail
  rw [rounds_succ]
  go_wp2_with fail
  go_ret2
  exact ⟨ret_pair E1.out E2.out, below_lit2 _ _ _⟩

set_option maxHeartbeats 400000 in
theorem implPairSign_noa (hi lo : Int) (w : World) (T : Hd (PairsAt w)) (h : hi < 164) :
    Calls Tryz.prog 112 #[.int .i64 hi, .int .i64 lo] w fun e w' => e = .returned (.tuple #[.int .i64 (psN hi lo), .bool (psOk hi lo)]) ∧ Below w.heap.size w w' := by
  obtain ⟨c0, c1, c2, c3, c4, c5⟩ := T.out.cells
  have x0 := row_zero w
  have x1 := row_one (w.alloc (.cells #[.int .i64 164, .int .i64 243, .int .i64 12353] 152))
  have E1 : Hd ((0 : Int) = psN hi lo) := ⟨(ps_no (by omega) (by omega)).1.symm⟩
  have E2 : Hd (false = psOk hi lo) := ⟨(ps_no (by omega) (by omega)).2.symm⟩
  go_enter Tryz.func112, Tryz.ntmps112
  go_wp2_with fail
  refine wp_loop_rounds 3 ?_
  rw [rounds_succ]
  go_wp2_with fail
  rw [rounds_succ]
  go_wp2_with fail
  rw [rounds_succ]
  go_wp2_with fail
  go_ret2
  exact ⟨ret_pair E1.out E2.out, below_lit2 _ _ _⟩

set_option maxHeartbeats 400000 in
theorem implPairSign_nob (hi lo : Int) (w : World) (T : Hd (PairsAt w)) (h : 165 < hi) :
    Calls Tryz.prog 112 #[.int .i64 hi, .int .i64 lo] w fun e w' => e = .returned (.tuple #[.int .i64 (psN hi lo), .bool (psOk hi lo)]) ∧ Below w.heap.size w w' := by
  obtain ⟨c0, c1, c2, c3, c4, c5⟩ := T.out.cells
  have x0 := row_zero w
  have x1 := row_one (w.alloc (.cells #[.int .i64 164, .int .i64 243, .int .i64 12353] 152))
  have E1 : Hd ((0 : Int) = psN hi lo) := ⟨(ps_no (by omega) (by omega)).1.symm⟩
  have E2 : Hd (false = psOk hi lo) := ⟨(ps_no (by omega) (by omega)).2.symm⟩
  go_enter Tryz.func112, Tryz.ntmps112
  go_wp2_with fail
  refine wp_loop_rounds 3 ?_
  rw [rounds_succ]
  go_wp2_with fail
  rw [rounds_succ]
  go_wp2_with fail
  rw [rounds_succ]
  go_wp2_with fail
  go_ret2
  exact ⟨ret_pair E1.out E2.out, below_lit2 _ _ _⟩

set_option maxHeartbeats 400000 in
theorem implPairSign_noc (hi lo : Int) (w : World) (T : Hd (PairsAt w)) (h : hi = 164) (h1 : lo < 161) :
    Calls Tryz.prog 112 #[.int .i64 hi, .int .i64 lo] w fun e w' => e = .returned (.tuple #[.int .i64 (psN hi lo), .bool (psOk hi lo)]) ∧ Below w.heap.size w w' := by
  obtain ⟨c0, c1, c2, c3, c4, c5⟩ := T.out.cells
  have x0 := row_zero w
  have x1 := row_one (w.alloc (.cells #[.int .i64 164, .int .i64 243, .int .i64 12353] 152))
  have E1 : Hd ((0 : Int) = psN hi lo) := ⟨(ps_no (by omega) (by omega)).1.symm⟩
  have E2 : Hd (false = psOk hi lo) := ⟨(ps_no (by omega) (by omega)).2.symm⟩
  go_enter Tryz.func112, Tryz.ntmps112
  go_wp2_with fail
  refine wp_loop_rounds 3 ?_
  rw [rounds_succ]
  go_wp2_with fail
  rw [rounds_succ]
  go_wp2_with fail
  rw [rounds_succ]
  go_wp2_with fail
  go_ret2
  exact ⟨ret_pair E1.out E2.out, below_lit2 _ _ _⟩

set_option maxHeartbeats 400000 in
theorem implPairSign_nod (hi lo : Int) (w : World) (T : Hd (PairsAt w)) (h : hi = 164) (h1 : 243 < lo) :
    Calls Tryz.prog 112 #[.int .i64 hi, .int .i64 lo] w fun e w' => e = .returned (.tuple #[.int .i64 (psN hi lo), .bool (psOk hi lo)]) ∧ Below w.heap.size w w' := by
  obtain ⟨c0, c1, c2, c3, c4, c5⟩ := T.out.cells
  have x0 := row_zero w
  have x1 := row_one (w.alloc (.cells #[.int .i64 164, .int .i64 243, .int .i64 12353] 152))
  have E1 : Hd ((0 : Int) = psN hi lo) := ⟨(ps_no (by omega) (by omega)).1.symm⟩
  have E2 : Hd (false = psOk hi lo) := ⟨(ps_no (by omega) (by omega)).2.symm⟩
  go_enter Tryz.func112, Tryz.ntmps112
  go_wp2_with fail
  refine wp_loop_rounds 3 ?_
  rw [rounds_succ]
  go_wp2_with fail
  rw [rounds_succ]
  go_wp2_with fail
  rw [rounds_succ]
  go_wp2_with fail
  go_ret2
  exact ⟨ret_pair E1.out E2.out, below_lit2 _ _ _⟩

set_option maxHeartbeats 400000 in
theorem implPairSign_noe (hi lo : Int) (w : World) (T : Hd (PairsAt w)) (h : hi = 165) (h1 : lo < 161) :
    Calls Tryz.prog 112 #[.int .i64 hi, .int .i64 lo] w fun e w' => e = .returned (.tuple #[.int .i64 (psN hi lo), .bool (psOk hi lo)]) ∧ Below w.heap.size w w' := by
  obtain ⟨c0, c1, c2, c3, c4, c5⟩ := T.out.cells
  have x0 := row_zero w
  have x1 := row_one (w.alloc (.cells #[.int .i64 164, .int .i64 243, .int .i64 12353] 152))
  have E1 : Hd ((0 : Int) = psN hi lo) := ⟨(ps_no (by omega) (by omega)).1.symm⟩
  have E2 : Hd (false = psOk hi lo) := ⟨(ps_no (by omega) (by omega)).2.symm⟩
  go_enter Tryz.func112, Tryz.ntmps112
  go_wp2_with fail
  refine wp_loop_rounds 3 ?_
  rw [rounds_succ]
  go_wp2_with fail
  rw [rounds_succ]
  go_wp2_with fail
  rw [rounds_succ]
  go_wp2_with fail
  go_ret2
  exact ⟨ret_pair E1.out E2.out, below_lit2 _ _ _⟩

set_option maxHeartbeats 400000 in
theorem implPairSign_nof (hi lo : Int) (w : World) (T : Hd (PairsAt w)) (h : hi = 165) (h1 : 246 < lo) :
    Calls Tryz.prog 112 #[.int .i64 hi, .int .i64 lo] w fun e w' => e = .returned (.tuple #[.int .i64 (psN hi lo), .bool (psOk hi lo)]) ∧ Below w.heap.size w w' := by
  obtain ⟨c0, c1, c2, c3, c4, c5⟩ := T.out.cells
  have x0 := row_zero w
  have x1 := row_one (w.alloc (.cells #[.int .i64 164, .int .i64 243, .int .i64 12353] 152))
  have E1 : Hd ((0 : Int) = psN hi lo) := ⟨(ps_no (by omega) (by omega)).1.symm⟩
  have E2 : Hd (false = psOk hi lo) := ⟨(ps_no (by omega) (by omega)).2.symm⟩
  go_enter Tryz.func112, Tryz.ntmps112
  go_wp2_with fail
  refine wp_loop_rounds 3 ?_
  rw [rounds_succ]
  go_wp2_with fail
  rw [rounds_succ]
  go_wp2_with fail
  rw [rounds_succ]
  go_wp2_with fail
  go_ret2
  exact ⟨ret_pair E1.out E2.out, below_lit2 _ _ _⟩

theorem implPairSign_any (hi lo : Int) (w : World) (T : Hd (PairsAt w)) :
    Calls Tryz.prog 112 #[.int .i64 hi, .int .i64 lo] w fun e w' => e = .returned (.tuple #[.int .i64 (psN hi lo), .bool (psOk hi lo)]) ∧ Below w.heap.size w w' := by
  rcases (show hi < 164 ∨ 165 < hi ∨ (hi = 164 ∧ lo < 161) ∨ (hi = 164 ∧ 243 < lo) ∨ (hi = 165 ∧ lo < 161) ∨ (hi = 165 ∧ 246 < lo) ∨ (hi = 164 ∧ 161 ≤ lo ∧ lo ≤ 243) ∨ (hi = 165 ∧ 161 ≤ lo ∧ lo ≤ 246) from by omega) with h | h | h | h | h | h | h | h
  · exact implPairSign_noa hi lo w T h
  · exact implPairSign_nob hi lo w T h
  · exact implPairSign_noc hi lo w T h.1 h.2
  · exact implPairSign_nod hi lo w T h.1 h.2
  · exact implPairSign_noe hi lo w T h.1 h.2
  · exact implPairSign_nof hi lo w T h.1 h.2
  · exact implPairSign_one hi lo w T h.1 h.2.1 h.2.2
  · exact implPairSign_two hi lo w T h.1 h.2.1 h.2.2

set_option maxHeartbeats 400000 in
theorem specPairSign_one (hi lo : Int) (w : World) (h : hi = 164) (h1 : 161 ≤ lo) (h2 : lo ≤ 243) :
    Calls Tryz.prog 96 #[.int .i64 hi, .int .i64 lo] w fun e w' => e = .returned (.tuple #[.int .i64 (psN hi lo), .bool (psOk hi lo)]) ∧ w' = w := by
  have E1 : Hd (12353 + lo - 161 = psN hi lo) := ⟨by rw [(ps_one h h1 h2).1]; omega⟩
  have E2 : Hd (true = psOk hi lo) := ⟨(ps_one h h1 h2).2.symm⟩
  have i1 := in_t (x := lo) (lo := 161) (hi := 243) ⟨h1, h2⟩
  go_enter Tryz.func96, Tryz.ntmps96
  go_wp2_with (go_at_call 13; refine (l1In_any _ _ _ _).mono ?_; rintro e w' ⟨rfl, hw⟩; replace hw := hw.symm; subst hw)
  go_ret2
  exact ⟨ret_pair E1.out E2.out, rfl⟩

set_option maxHeartbeats 400000 in
theorem specPairSign_two (hi lo : Int) (w : World) (h : hi = 165) (h1 : 161 ≤ lo) (h2 : lo ≤ 246) :
    Calls Tryz.prog 96 #[.int .i64 hi, .int .i64 lo] w fun e w' => e = .returned (.tuple #[.int .i64 (psN hi lo), .bool (psOk hi lo)]) ∧ w' = w := by
  have E1 : Hd (12449 + lo - 161 = psN hi lo) := ⟨by rw [(ps_two h h1 h2).1]; omega⟩
  have E2 : Hd (true = psOk hi lo) := ⟨(ps_two h h1 h2).2.symm⟩
  have i1 := in_t (x := lo) (lo := 161) (hi := 246) ⟨h1, h2⟩
  go_enter Tryz.func96, Tryz.ntmps96
  go_wp2_with (go_at_call 13; refine (l1In_any _ _ _ _).mono ?_; rintro e w' ⟨rfl, hw⟩; replace hw := hw.symm; subst hw)
  go_ret2
  exact ⟨ret_pair E1.out E2.out, rfl⟩

set_option maxHeartbeats 400000 in
theorem specPairSign_noa (hi lo : Int) (w : World) (h : hi < 164) :
    Calls Tryz.prog 96 #[.int .i64 hi, .int .i64 lo] w fun e w' => e = .returned (.tuple #[.int .i64 (psN hi lo), .bool (psOk hi lo)]) ∧ w' = w := by
  have E1 : Hd ((0 : Int) = psN hi lo) := ⟨(ps_no (by omega) (by omega)).1.symm⟩
  have E2 : Hd (false = psOk hi lo) := ⟨(ps_no (by omega) (by omega)).2.symm⟩
  go_enter Tryz.func96, Tryz.ntmps96
  go_wp2_with (go_at_call 13; refine (l1In_any _ _ _ _).mono ?_; rintro e w' ⟨rfl, hw⟩; replace hw := hw.symm; subst hw)
  go_ret2
  exact ⟨ret_pair E1.out E2.out, rfl⟩

set_option maxHeartbeats 400000 in
theorem specPairSign_nob (hi lo : Int) (w : World) (h : 165 < hi) :
    Calls Tryz.prog 96 #[.int .i64 hi, .int .i64 lo] w fun e w' => e = .returned (.tuple #[.int .i64 (psN hi lo), .bool (psOk hi lo)]) ∧ w' = w := by
  have E1 : Hd ((0 : Int) = psN hi lo) := ⟨(ps_no (by omega) (by omega)).1.symm⟩
  have E2 : Hd (false = psOk hi lo) := ⟨(ps_no (by omega) (by omega)).2.symm⟩
  go_enter Tryz.func96, Tryz.ntmps96
  go_wp2_with (go_at_call 13; refine (l1In_any _ _ _ _).mono ?_; rintro e w' ⟨rfl, hw⟩; replace hw := hw.symm; subst hw)
  go_ret2
  exact ⟨ret_pair E1.out E2.out, rfl⟩

set_option maxHeartbeats 400000 in
theorem specPairSign_noc (hi lo : Int) (w : World) (h : hi = 164) (h1 : ¬(161 ≤ lo ∧ lo ≤ 243)) :
    Calls Tryz.prog 96 #[.int .i64 hi, .int .i64 lo] w fun e w' => e = .returned (.tuple #[.int .i64 (psN hi lo), .bool (psOk hi lo)]) ∧ w' = w := by
  have E1 : Hd ((0 : Int) = psN hi lo) := ⟨(ps_no (by omega) (by omega)).1.symm⟩
  have E2 : Hd (false = psOk hi lo) := ⟨(ps_no (by omega) (by omega)).2.symm⟩
  have i1 := in_f (x := lo) (lo := 161) (hi := 243) h1
  clear h1
  go_enter Tryz.func96, Tryz.ntmps96
  go_wp2_with (go_at_call 13; refine (l1In_any _ _ _ _).mono ?_; rintro e w' ⟨rfl, hw⟩; replace hw := hw.symm; subst hw)
  go_ret2
  exact ⟨ret_pair E1.out E2.out, rfl⟩

set_option maxHeartbeats 400000 in
theorem specPairSign_nod (hi lo : Int) (w : World) (h : hi = 165) (h1 : ¬(161 ≤ lo ∧ lo ≤ 246)) :
    Calls Tryz.prog 96 #[.int .i64 hi, .int .i64 lo] w fun e w' => e = .returned (.tuple #[.int .i64 (psN hi lo), .bool (psOk hi lo)]) ∧ w' = w := by
  have E1 : Hd ((0 : Int) = psN hi lo) := ⟨(ps_no (by omega) (by omega)).1.symm⟩
  have E2 : Hd (false = psOk hi lo) := ⟨(ps_no (by omega) (by omega)).2.symm⟩
  have i1 := in_f (x := lo) (lo := 161) (hi := 246) h1
  clear h1
  go_enter Tryz.func96, Tryz.ntmps96
  go_wp2_with (go_at_call 13; refine (l1In_any _ _ _ _).mono ?_; rintro e w' ⟨rfl, hw⟩; replace hw := hw.symm; subst hw)
  go_ret2
  exact ⟨ret_pair E1.out E2.out, rfl⟩

theorem specPairSign_any (hi lo : Int) (w : World) :
    Calls Tryz.prog 96 #[.int .i64 hi, .int .i64 lo] w fun e w' => e = .returned (.tuple #[.int .i64 (psN hi lo), .bool (psOk hi lo)]) ∧ w' = w := by
  rcases (show hi < 164 ∨ 165 < hi ∨ (hi = 164 ∧ ¬(161 ≤ lo ∧ lo ≤ 243)) ∨ (hi = 165 ∧ ¬(161 ≤ lo ∧ lo ≤ 246)) ∨ (hi = 164 ∧ 161 ≤ lo ∧ lo ≤ 243) ∨ (hi = 165 ∧ 161 ≤ lo ∧ lo ≤ 246) from by omega) with h | h | h | h | h | h
  · exact specPairSign_noa hi lo w h
  · exact specPairSign_nob hi lo w h
  · exact specPairSign_noc hi lo w h.1 h.2
  · exact specPairSign_nod hi lo w h.1 h.2
  · exact specPairSign_one hi lo w h.1 h.2.1 h.2.2
  · exact specPairSign_two hi lo w h.1 h.2.1 h.2.2

/-- What EucSign answers of the bytes bs at a place: the sign, the place behind it, and whether there is one. -/
def eucAt (bs : List UInt8) (at_ : Int) : Int × Int × Bool :=
  if 0 ≤ at_ ∧ at_ < (bs.length : Int) then
    (if (bs.getD at_.toNat 0).toNat < 128 then (((bs.getD at_.toNat 0).toNat : Int), at_ + 1, true)
    else if at_ + 1 < (bs.length : Int) ∧ psOk ((bs.getD at_.toNat 0).toNat : Int) ((bs.getD (at_.toNat + 1) 0).toNat : Int) = true then (psN ((bs.getD at_.toNat 0).toNat : Int) ((bs.getD (at_.toNat + 1) 0).toNat : Int), at_ + 2, true) else (0, 0, false))
  else (0, 0, false)
theorem euc_out {bs : List UInt8} {at_ : Int} (h : ¬(0 ≤ at_ ∧ at_ < (bs.length : Int))) : eucAt bs at_ = (0, 0, false) := if_neg h
theorem euc_one {bs : List UInt8} {k x : Nat} (h : k < bs.length) (hx : (bs.getD k 0).toNat = x) (h1 : x < 128) : eucAt bs (k : Int) = ((x : Int), (k : Int) + 1, true) := by
  unfold eucAt
  rw [if_pos (by omega), Int.toNat_natCast, hx, if_pos h1]
theorem euc_last {bs : List UInt8} {k x : Nat} (h : k + 1 = bs.length) (hx : (bs.getD k 0).toNat = x) (h1 : 128 ≤ x) : eucAt bs (k : Int) = (0, 0, false) := by
  unfold eucAt
  rw [if_pos (by omega), Int.toNat_natCast, hx, if_neg (by omega), if_neg (by omega)]
theorem euc_yes {bs : List UInt8} {k x y : Nat} (h : k + 1 < bs.length) (hx : (bs.getD k 0).toNat = x) (hy : (bs.getD (k + 1) 0).toNat = y) (h1 : 128 ≤ x) (h2 : psOk (x : Int) (y : Int) = true) : eucAt bs (k : Int) = (psN (x : Int) (y : Int), (k : Int) + 2, true) := by
  unfold eucAt
  rw [if_pos (by omega), Int.toNat_natCast, hx, hy, if_neg (by omega), if_pos ⟨by omega, h2⟩]
theorem euc_no {bs : List UInt8} {k x y : Nat} (h : k + 1 < bs.length) (hx : (bs.getD k 0).toNat = x) (hy : (bs.getD (k + 1) 0).toNat = y) (h1 : 128 ≤ x) (h2 : psOk (x : Int) (y : Int) = false) : eucAt bs (k : Int) = (0, 0, false) := by
  unfold eucAt
  rw [if_pos (by omega), Int.toNat_natCast, hx, hy, if_neg (by omega), if_neg (by rw [h2]; simp)]
theorem ps_lack (x : Int) : psN x (-1) = 0 ∧ psOk x (-1) = false := ps_no (by omega) (by omega)

set_option maxHeartbeats 400000 in
theorem implEucSign_out (ao : Option Addr) (len cap : Nat) (at_ : Int) (w : World) (h : at_ < 0 ∨ (len : Int) ≤ at_) :
    Calls Tryz.prog 105 #[.slice ao len cap, .int .i64 at_] w fun e w' => e = .returned (.tuple #[.int .i64 0, .int .i64 0, .bool false]) ∧ Below w.heap.size w w' := by
  by_cases h0 : at_ < 0
  · clear h
    go_enter Tryz.func105, Tryz.ntmps105
    go_wp2_with fail
    go_ret3
    exact ⟨rfl, Below.refl _ _⟩
  · have h1 : (len : Int) ≤ at_ := by omega
    clear h
    go_enter Tryz.func105, Tryz.ntmps105
    go_wp2_with fail
    go_ret3
    exact ⟨rfl, Below.refl _ _⟩

set_option maxHeartbeats 400000 in
theorem implEucSign_one (b off len cap k x : Nat) (w : World) (hl : len ≤ 1073741824) (hk : k < len) (hx : x < 128)
    (hc : w.cell? ⟨b, off + k, none⟩ = some (.int .u8 (x : Int))) :
    Calls Tryz.prog 105 #[.slice (some ⟨b, off, none⟩) len cap, .int .i64 (k : Int)] w fun e w' => e = .returned (.tuple #[.int .i64 (x : Int), .int .i64 ((k : Int) + 1), .bool true]) ∧ Below w.heap.size w w' := by
  have k0 : ¬ (k : Int) < 0 := by omega
  have k1 : (k : Int) < (len : Int) := by omega
  have x1 : (x : Int) ≤ 127 := by omega
  go_enter Tryz.func105, Tryz.ntmps105
  go_wp2_with fail
  go_ret3
  exact ⟨rfl, Below.refl _ _⟩

set_option maxHeartbeats 400000 in
theorem implEucSign_last (b off len cap k x : Nat) (w : World) (hl : len ≤ 1073741824) (hk : k + 1 = len) (hx : 128 ≤ x) (hx2 : x < 256)
    (hc : w.cell? ⟨b, off + k, none⟩ = some (.int .u8 (x : Int))) (T : Hd (PairsAt w)) :
    Calls Tryz.prog 105 #[.slice (some ⟨b, off, none⟩) len cap, .int .i64 (k : Int)] w fun e w' => e = .returned (.tuple #[.int .i64 0, .int .i64 0, .bool false]) ∧ Below w.heap.size w w' := by
  have k0 : ¬ (k : Int) < 0 := by omega
  have k1 : (k : Int) < (len : Int) := by omega
  have k2 : ¬ (k : Int) + 1 < (len : Int) := by omega
  have x1 : ¬ (x : Int) ≤ 127 := by omega
  have p1 := (ps_lack (x : Int)).1
  have p2 := (ps_lack (x : Int)).2
  clear hk
  go_enter Tryz.func105, Tryz.ntmps105
  go_wp2_with fail
  refine (implPairSign_any (x : Int) (-1) _ T).mono ?_
  rintro e w1 ⟨rfl, hB1⟩
  have B1 : Hd (Below w.heap.size w w1) := ⟨hB1⟩
  clear hB1
  rewrite [p1, p2]
  clear p1 p2
  go_wp2_with fail
  go_ret3
  exact ⟨rfl, B1.out⟩

set_option maxHeartbeats 400000 in
theorem implEucSign_two (b off len cap k x y : Nat) (p : Int) (ok : Bool) (w : World) (hl : len ≤ 1073741824) (hk : k + 1 < len) (hx : 128 ≤ x) (hx2 : x < 256) (hy2 : y < 256)
    (hc : w.cell? ⟨b, off + k, none⟩ = some (.int .u8 (x : Int))) (hc2 : w.cell? ⟨b, off + (k + 1), none⟩ = some (.int .u8 (y : Int))) (T : Hd (PairsAt w))
    (P1 : Hd (psN (x : Int) (y : Int) = p)) (P2 : Hd (psOk (x : Int) (y : Int) = ok)) :
    Calls Tryz.prog 105 #[.slice (some ⟨b, off, none⟩) len cap, .int .i64 (k : Int)] w fun e w' => e = .returned (.tuple #[.int .i64 (if ok then p else 0), .int .i64 (if ok then (k : Int) + 2 else 0), .bool ok]) ∧ Below w.heap.size w w' := by
  have k0 : ¬ (k : Int) < 0 := by omega
  have k1 : (k : Int) < (len : Int) := by omega
  have k2 : (k : Int) + 1 < (len : Int) := by omega
  have x1 : ¬ (x : Int) ≤ 127 := by omega
  go_enter Tryz.func105, Tryz.ntmps105
  go_wp2_with fail
  refine (implPairSign_any (x : Int) (y : Int) _ T).mono ?_
  rintro e w1 ⟨rfl, hB1⟩
  have B1 : Hd (Below w.heap.size w w1) := ⟨hB1⟩
  clear hB1
  rewrite [P1.out, P2.out]
  cases ok with
  | true =>
    go_wp2_with fail
    go_ret3
    exact ⟨rfl, B1.out⟩
  | false =>
    go_wp2_with fail
    go_ret3
    exact ⟨rfl, B1.out⟩

set_option maxHeartbeats 400000 in
theorem specEucSign_out (ao : Option Addr) (len cap : Nat) (at_ : Int) (w : World) (hl : len ≤ 1073741824) (h : at_ < 0 ∨ (len : Int) ≤ at_) :
    Calls Tryz.prog 90 #[.slice ao len cap, .int .i64 at_] w fun e w' => e = .returned (.tuple #[.int .i64 0, .int .i64 0, .bool false]) ∧ Below w.heap.size w w' := by
  have hin : inB at_ 0 ((len : Int) - 1) = false := in_f (by omega)
  clear h
  go_enter Tryz.func90, Tryz.ntmps90
  go_wp2_with (go_at_call 13; refine (l1In_any _ _ _ _).mono ?_; rintro e w' ⟨rfl, hw⟩; replace hw := hw.symm; subst hw)
  go_ret3
  exact ⟨rfl, Below.refl _ _⟩

set_option maxHeartbeats 400000 in
theorem specEucSign_one (b off len cap k x : Nat) (w : World) (hl : len ≤ 1073741824) (hk : k < len) (hx : x < 128)
    (hc : w.cell? ⟨b, off + k, none⟩ = some (.int .u8 (x : Int))) :
    Calls Tryz.prog 90 #[.slice (some ⟨b, off, none⟩) len cap, .int .i64 (k : Int)] w fun e w' => e = .returned (.tuple #[.int .i64 (x : Int), .int .i64 ((k : Int) + 1), .bool true]) ∧ Below w.heap.size w w' := by
  have hin : inB (k : Int) 0 ((len : Int) - 1) = true := in_t (by omega)
  have k1 : (k : Int) < (len : Int) := by omega
  have x1 : (x : Int) < 128 := by omega
  go_enter Tryz.func90, Tryz.ntmps90
  go_wp2_with (go_at_call 13; refine (l1In_any _ _ _ _).mono ?_; rintro e w' ⟨rfl, hw⟩; replace hw := hw.symm; subst hw)
  go_ret3
  exact ⟨rfl, Below.refl _ _⟩

set_option maxHeartbeats 400000 in
theorem specEucSign_last (b off len cap k x : Nat) (w : World) (hl : len ≤ 1073741824) (hk : k + 1 = len) (hx : 128 ≤ x) (hx2 : x < 256)
    (hc : w.cell? ⟨b, off + k, none⟩ = some (.int .u8 (x : Int))) :
    Calls Tryz.prog 90 #[.slice (some ⟨b, off, none⟩) len cap, .int .i64 (k : Int)] w fun e w' => e = .returned (.tuple #[.int .i64 0, .int .i64 0, .bool false]) ∧ Below w.heap.size w w' := by
  have hin : inB (k : Int) 0 ((len : Int) - 1) = true := in_t (by omega)
  have k1 : (k : Int) < (len : Int) := by omega
  have k2 : ¬ (k : Int) + 1 < (len : Int) := by omega
  have x1 : decide ((x : Int) < 128) = false := decide_eq_false (by omega)
  have x2 : (x : Int) < 256 := by omega
  clear hx hx2
  clear hk
  go_enter Tryz.func90, Tryz.ntmps90
  go_wp2_with (go_at_call 13; refine (l1In_any _ _ _ _).mono ?_; rintro e w' ⟨rfl, hw⟩; replace hw := hw.symm; subst hw)
  go_ret3
  exact ⟨rfl, Below.refl _ _⟩

theorem specPairSign_is {x y p : Int} {ok : Bool} (h1 : Hd (psN x y = p)) (h2 : Hd (psOk x y = ok)) (w : World) :
    Calls Tryz.prog 96 #[.int .i64 x, .int .i64 y] w fun e w' => e = .returned (.tuple #[.int .i64 p, .bool ok]) ∧ w' = w := by
  rw [← h1.out, ← h2.out]; exact specPairSign_any x y w

set_option maxHeartbeats 400000 in
theorem specEucSign_two (b off len cap k x y : Nat) (p : Int) (ok : Bool) (w : World) (hl : len ≤ 1073741824) (hk : k + 1 < len) (hx : 128 ≤ x) (hx2 : x < 256) (hy2 : y < 256)
    (hc : w.cell? ⟨b, off + k, none⟩ = some (.int .u8 (x : Int))) (hc2 : w.cell? ⟨b, off + (k + 1), none⟩ = some (.int .u8 (y : Int)))
    (P1 : Hd (psN (x : Int) (y : Int) = p)) (P2 : Hd (psOk (x : Int) (y : Int) = ok)) :
    Calls Tryz.prog 90 #[.slice (some ⟨b, off, none⟩) len cap, .int .i64 (k : Int)] w fun e w' => e = .returned (.tuple #[.int .i64 (if ok then p else 0), .int .i64 (if ok then (k : Int) + 2 else 0), .bool ok]) ∧ Below w.heap.size w w' := by
  have hin : inB (k : Int) 0 ((len : Int) - 1) = true := in_t (by omega)
  have k1 : (k : Int) < (len : Int) := by omega
  have K2 : Hd ((k : Int) + 1 < (len : Int)) := ⟨by omega⟩
  have k3 : decide ((len : Int) ≤ (k : Int) + 1) = false := decide_eq_false (by omega)
  have x1 : decide ((x : Int) < 128) = false := decide_eq_false (by omega)
  have x2 : (x : Int) < 256 := by omega
  have y2 : (y : Int) < 256 := by omega
  clear hx hx2 hy2 hk
  go_enter Tryz.func90, Tryz.ntmps90
  go_wp2_with (go_at_call 13; refine (l1In_any _ _ _ _).mono ?_; rintro e w' ⟨rfl, hw⟩; replace hw := hw.symm; subst hw)
  have k2 := K2.out
  go_quiet (first | (go_at_call 96; exact Calls.quiet_of_same (specPairSign_is P1 P2 _)))
  have kb : (k : Int) ≤ 1073741824 := by omega
  clear k1 k2 K2 k3 x1 x2 y2 hin hc hc2 hl
  cases ok with
  | true =>
    go_wp2_with fail
    go_ret3
    exact ⟨rfl, below_drewN' _ _ _⟩
  | false =>
    go_wp2_with fail
    go_ret3
    exact ⟨rfl, below_drewN' _ _ _⟩

/-- What EucSign answers: the sign there, the place behind, and whether there is one; nothing that was there is written. -/
structure EucOut (w : World) (bs : List UInt8) (at_ : Int) (e : Ending) (w' : World) : Prop where
  out : e = .returned (.tuple #[.int .i64 (eucAt bs at_).1, .int .i64 (eucAt bs at_).2.1, .bool (eucAt bs at_).2.2])
  bel : Below w.heap.size w w'

theorem implEucSign_any (b off len cap : Nat) (bs : List UInt8) (at_ : Int) (w : World) (hn : bs.length = len) (hc : ∀ j, j < len → w.cell? ⟨b, off + j, none⟩ = some (.int .u8 ((bs.getD j 0).toNat : Int))) (hl : len ≤ 1073741824) (T : Hd (PairsAt w)) :
    Calls Tryz.prog 105 #[.slice (some ⟨b, off, none⟩) len cap, .int .i64 at_] w (EucOut w bs at_) := by
  by_cases h : 0 ≤ at_ ∧ at_ < (len : Int)
  · obtain ⟨k, rfl⟩ : ∃ k : Nat, at_ = (k : Int) := ⟨at_.toNat, by omega⟩
    have hk : k < len := by omega
    have hx := hc k hk
    have hx2 := (bs.getD k 0).toNat_lt
    obtain ⟨x, ex⟩ : ∃ x, (bs.getD k 0).toNat = x := ⟨_, rfl⟩
    rw [ex] at hx hx2
    by_cases h1 : x < 128
    · exact (implEucSign_one b off len cap k x w hl hk h1 hx).mono fun e w' ⟨he, hB⟩ => ⟨by rw [euc_one (by omega) ex h1]; exact he, hB⟩
    · by_cases h2 : k + 1 < len
      · have hy := hc (k + 1) h2
        have hy2 := (bs.getD (k + 1) 0).toNat_lt
        obtain ⟨y, ey⟩ : ∃ y, (bs.getD (k + 1) 0).toNat = y := ⟨_, rfl⟩
        rw [ey] at hy hy2
        cases ho : psOk (x : Int) (y : Int) with
        | true => exact (implEucSign_two b off len cap k x y _ true w hl h2 (by omega) hx2 hy2 hx hy T ⟨rfl⟩ ⟨ho⟩).mono fun e w' ⟨he, hB⟩ => ⟨by rw [euc_yes (by omega) ex ey (by omega) ho]; exact he, hB⟩
        | false => exact (implEucSign_two b off len cap k x y _ false w hl h2 (by omega) hx2 hy2 hx hy T ⟨rfl⟩ ⟨ho⟩).mono fun e w' ⟨he, hB⟩ => ⟨by rw [euc_no (by omega) ex ey (by omega) ho]; exact he, hB⟩
      · exact (implEucSign_last b off len cap k x w hl (by omega) (by omega) hx2 hx T).mono fun e w' ⟨he, hB⟩ => ⟨by rw [euc_last (by omega) ex (by omega)]; exact he, hB⟩
  · exact (implEucSign_out _ len cap at_ w (by omega)).mono fun e w' ⟨he, hB⟩ => ⟨by rw [euc_out (by omega)]; exact he, hB⟩

theorem specEucSign_any (b off len cap : Nat) (bs : List UInt8) (at_ : Int) (w : World) (hn : bs.length = len) (hc : ∀ j, j < len → w.cell? ⟨b, off + j, none⟩ = some (.int .u8 ((bs.getD j 0).toNat : Int))) (hl : len ≤ 1073741824) :
    Calls Tryz.prog 90 #[.slice (some ⟨b, off, none⟩) len cap, .int .i64 at_] w (EucOut w bs at_) := by
  by_cases h : 0 ≤ at_ ∧ at_ < (len : Int)
  · obtain ⟨k, rfl⟩ : ∃ k : Nat, at_ = (k : Int) := ⟨at_.toNat, by omega⟩
    have hk : k < len := by omega
    have hx := hc k hk
    have hx2 := (bs.getD k 0).toNat_lt
    obtain ⟨x, ex⟩ : ∃ x, (bs.getD k 0).toNat = x := ⟨_, rfl⟩
    rw [ex] at hx hx2
    by_cases h1 : x < 128
    · exact (specEucSign_one b off len cap k x w hl hk h1 hx).mono fun e w' ⟨he, hB⟩ => ⟨by rw [euc_one (by omega) ex h1]; exact he, hB⟩
    · by_cases h2 : k + 1 < len
      · have hy := hc (k + 1) h2
        have hy2 := (bs.getD (k + 1) 0).toNat_lt
        obtain ⟨y, ey⟩ : ∃ y, (bs.getD (k + 1) 0).toNat = y := ⟨_, rfl⟩
        rw [ey] at hy hy2
        cases ho : psOk (x : Int) (y : Int) with
        | true => exact (specEucSign_two b off len cap k x y _ true w hl h2 (by omega) hx2 hy2 hx hy ⟨rfl⟩ ⟨ho⟩).mono fun e w' ⟨he, hB⟩ => ⟨by rw [euc_yes (by omega) ex ey (by omega) ho]; exact he, hB⟩
        | false => exact (specEucSign_two b off len cap k x y _ false w hl h2 (by omega) hx2 hy2 hx hy ⟨rfl⟩ ⟨ho⟩).mono fun e w' ⟨he, hB⟩ => ⟨by rw [euc_no (by omega) ex ey (by omega) ho]; exact he, hB⟩
      · exact (specEucSign_last b off len cap k x w hl (by omega) (by omega) hx2 hx).mono fun e w' ⟨he, hB⟩ => ⟨by rw [euc_last (by omega) ex (by omega)]; exact he, hB⟩
  · exact (specEucSign_out _ len cap at_ w hl (by omega)).mono fun e w' ⟨he, hB⟩ => ⟨by rw [euc_out (by omega)]; exact he, hB⟩

/-- The bytes of a sign in that set; none, when it has none. -/
def eucB (n : Int) : List UInt8 := if 0 ≤ n ∧ n ≤ 127 then [bt n.toNat] else if spOk n = true then [bt (spA n).toNat, bt (spB n).toNat] else []
def eucOk (n : Int) : Bool := if 0 ≤ n ∧ n ≤ 127 then true else spOk n
theorem eucB_one {n : Nat} (h : n < 128) : eucB (n : Int) = [bt n] ∧ eucOk (n : Int) = true := by
  have k : 0 ≤ (n : Int) ∧ (n : Int) ≤ 127 := by omega
  unfold eucB eucOk; rw [if_pos k, if_pos k, Int.toNat_natCast]; exact ⟨rfl, rfl⟩
theorem eucB_two {n : Int} {a b : Nat} (h : spOk n = true) (ha : spA n = (a : Int)) (hb : spB n = (b : Int)) : eucB n = [bt a, bt b] ∧ eucOk n = true := by
  have k : ¬(0 ≤ n ∧ n ≤ 127) := by
    intro k
    have := (sp_no (n := n) (by omega) (by omega)).2.2
    rw [this] at h; cases h
  unfold eucB eucOk; rw [if_neg k, if_neg k, if_pos h, ha, hb, Int.toNat_natCast, Int.toNat_natCast]; exact ⟨rfl, h⟩
theorem eucB_no {n : Int} (k : ¬(0 ≤ n ∧ n ≤ 127)) (h : spOk n = false) : eucB n = [] ∧ eucOk n = false := by
  unfold eucB eucOk; rw [if_neg k, if_neg k, if_neg (by rw [h]; simp)]; exact ⟨rfl, h⟩
theorem eucB_len (n : Int) : (eucB n).length ≤ 2 := by
  unfold eucB; repeat' split
  all_goals simp
theorem sp_above {n : Int} (h : spOk n = true) : 127 < n ∧ n ≤ 9223372036854775807 := by
  by_cases h1 : 12353 ≤ n ∧ n ≤ 12435
  · omega
  · by_cases h2 : 12449 ≤ n ∧ n ≤ 12534
    · omega
    · rw [(sp_no h1 h2).2.2] at h; cases h

end Go.Proofs.YtlididoalekeoaaGreatDoor
