/- Contracts of DecNew, in the specification and in the program, and of what its law does with a state that holds nil. -/
import Derived.Test.YtjbideiifoadkaaDecS
namespace Go.Proofs.Ytjbideiifoadkaa
open Go.RowKit

theorem box_below {wi wj : World} {d : Nat} {o : Obj} (h : wi.heap[d]? = some o) (hB : Below wi.heap.size wi wj) : wj.heap[d]? = some o := (hB.block d (Array.getElem?_eq_some_iff.1 h).1).trans h

set_option maxHeartbeats 400000 in
theorem specDecNew_nil (cs : Int) (w : World) :
    Calls Try.prog 4 #[.int .i64 cs] w fun e w' => e = .returned (.agg #[.int .i64 cs, .slice none 0 0, .bool false]) ∧ Below w.heap.size w w' := by
  go_enter Try.func4, Try.ntmps4
  go_wp2_with fail
  refine bodyPost_ret (results_cell_row rfl _ _ w.heap.size _ _ (0, 0) _ rfl (heap_alloc_new w _) Try.underlying24 rfl (by kernel_rfl)) rfl ?_
  exact ⟨rfl, below_lit w _⟩

set_option maxHeartbeats 400000 in
theorem implDecNew_nil (cs : Int) (w : World) :
    Calls Try.prog 5 #[.int .i64 cs] w fun e w' => e = .returned (.agg #[.int .i64 cs, .slice none 0 0, .bool false]) ∧ Below w.heap.size w w' := by
  go_enter Try.func5, Try.ntmps5
  go_wp2_with fail
  refine bodyPost_ret (results_cell_row rfl _ _ w.heap.size _ _ (0, 0) _ rfl (heap_alloc_new w _) Try.underlying24 rfl (by kernel_rfl)) rfl ?_
  exact ⟨rfl, below_lit w _⟩

set_option maxHeartbeats 400000 in
theorem markByteS_nil (c : Nat) (m : Int) (w : World) : Calls Try.prog 10 #[.slice none 0 c, .int .i64 m] w fun e w' => e = .returned (.int .i64 m) ∧ w = w' := by
  go_enter Try.func10, Try.ntmps10
  go_wp2_with fail
  refine wp_loop_rounds 1 ?_
  rewrite [rounds_succ]
  go_wp2_with fail
  go_ret
  exact ⟨rfl, rfl⟩

set_option maxHeartbeats 400000 in
theorem heldByteS_nil (c : Nat) (m : Int) (w : World) : Calls Try.prog 11 #[.slice none 0 c, .int .i64 m] w fun e w' => e = .returned (.int .i64 m) ∧ w = w' := by
  go_enter Try.func11, Try.ntmps11
  go_wp2_with fail
  refine wp_loop_rounds 1 ?_
  rewrite [rounds_succ]
  go_wp2_with fail
  go_ret
  exact ⟨rfl, rfl⟩

set_option maxHeartbeats 400000 in
theorem markDec_nil (cs : Int) (c : Nat) (m : Int) (bad : Bool) (w : World) :
    Calls Try.prog 7 #[.agg #[.int .i64 cs, .slice none 0 c, .bool bad], .int .i64 m] w fun e w' => e = .returned (.int .i64 m) ∧ Below w.heap.size w w' := by
  go_enter Try.func7, Try.ntmps7
  go_wp2_with fail
  refine (markByteS_nil c m _).mono ?_
  rintro e w1 ⟨rfl, hw⟩
  subst hw
  go_wp2_with fail
  go_ret
  exact ⟨rfl, below_lit w _⟩

set_option maxHeartbeats 400000 in
theorem heldDec_one (cs : Int) (c : Nat) (bad : Bool) (w : World) :
    Calls Try.prog 8 #[.agg #[.int .i64 cs, .slice none 0 c, .bool bad], .int .i64 1] w fun e w' => e = .returned (.int .i64 1) ∧ Below w.heap.size w w' := by
  go_enter Try.func8, Try.ntmps8
  go_wp2_with fail
  refine (heldByteS_nil c 1 _).mono ?_
  rintro e w1 ⟨rfl, hw⟩
  subst hw
  go_wp2_with fail
  go_ret
  exact ⟨rfl, below_lit w _⟩

theorem eqDec_nil (cs : Int) (w : World) :
    Calls Try.prog 6 #[.agg #[.int .i64 cs, .slice none 0 0, .bool false], .agg #[.int .i64 cs, .slice none 0 0, .bool false]] w fun e w' => e = .returned (.bool true) ∧ Below w.heap.size w w' :=
  eqDec_true cs none none 0 0 0 false [] w (by omega) ⟨rfl, .inl rfl⟩ ⟨rfl, .inl rfl⟩

end Go.Proofs.Ytjbideiifoadkaa
