/- Contracts of the program's sets: which one a number has, the sign at a place, the bytes of a sign. -/
import Derived.Test.YtcddjfdmodpnjabDoorCodeP
import Derived.Test.YtcddjfdmodpnjabDoorEucB
import Derived.Test.YtcddjfdmodpnjabDoorPutEuc
import Derived.Test.YtcddjfdmodpnjabDoorLaidA
import Derived.Test.YtcddjfdmodpnjabDoorGetSpecB
import Derived.Deep.RegionHeld3
namespace Go.Proofs.YtcddjfdmodpnjabDoor
open Go.RowKit

/-- The set of a number, as the program holds it. -/
def setV (cs : Int) : Value := if cs = 0 then .iface 48 (.agg #[]) else if cs = 5 then .iface 51 (.agg #[]) else .iface 50 (.agg #[.int .i64 cs])
theorem setV_utf : setV 0 = .iface 48 (.agg #[]) := rfl
theorem setV_euc : setV 5 = .iface 51 (.agg #[]) := rfl
theorem setV_byte {cs : Int} (h0 : cs ≠ 0) (h5 : cs ≠ 5) : setV cs = .iface 50 (.agg #[.int .i64 cs]) := by
  unfold setV; rw [if_neg h0, if_neg h5]

set_option maxHeartbeats 400000 in
theorem setOf_yes (cs : Int) (w : World) (h : 0 ≤ cs ∧ cs ≤ 5) : Calls Tryd.prog 15 #[.int .i64 cs] w fun e w' => e = .returned (.tuple #[setV cs, .bool true]) ∧ w' = w := by
  rcases (show cs = 0 ∨ cs = 1 ∨ cs = 2 ∨ cs = 3 ∨ cs = 4 ∨ cs = 5 from by omega) with rfl | rfl | rfl | rfl | rfl | rfl
  all_goals
    go_enter Tryd.func15, Tryd.ntmps15
    go_wp2_with fail
    go_ret2
    exact ⟨rfl, rfl⟩

set_option maxHeartbeats 400000 in
theorem setOf_no (cs : Int) (w : World) (h : ¬ (0 ≤ cs ∧ cs ≤ 5)) : Calls Tryd.prog 15 #[.int .i64 cs] w fun e w' => e = .returned (.tuple #[.nilIface, .bool false]) ∧ w' = w := by
  have h0 : (cs == 0) = false := by simp; omega
  have h1 : (cs == 1) = false := by simp; omega
  have h2 : (cs == 2) = false := by simp; omega
  have h3 : (cs == 3) = false := by simp; omega
  have h4 : (cs == 4) = false := by simp; omega
  have h5 : (cs == 5) = false := by simp; omega
  clear h
  go_enter Tryd.func15, Tryd.ntmps15
  go_wp2_with fail
  go_ret2
  exact ⟨rfl, rfl⟩

/-- The sign at a place is answered. -/
structure SignOut (w : World) (cs : Int) (t : List UInt8) (k : Nat) (e : Ending) (w' : World) : Prop where
  out : ∃ (n next : Int) (ok : Bool), e = .returned (.tuple #[.int .i64 n, .int .i64 next, .bool ok]) ∧ SignAt cs t k n next ok ∧ Below w.heap.size w w'

theorem as_uu (w : World) : (Instr.typeAssert (.iface 48 (.agg #[])) 35 48 true).run Tryd.prog w = .ok (.tuple #[.agg #[], .bool true]) w := by kernel_rfl
theorem as_bu (w : World) (c : Int) : (Instr.typeAssert (.iface 50 (.agg #[.int .i64 c])) 35 48 true).run Tryd.prog w = .ok (.tuple #[.agg #[], .bool false]) w := by kernel_rfl
theorem as_bb (w : World) (c : Int) : (Instr.typeAssert (.iface 50 (.agg #[.int .i64 c])) 35 50 true).run Tryd.prog w = .ok (.tuple #[.agg #[.int .i64 c], .bool true]) w := by kernel_rfl
theorem as_eu (w : World) : (Instr.typeAssert (.iface 51 (.agg #[])) 35 48 true).run Tryd.prog w = .ok (.tuple #[.agg #[], .bool false]) w := by kernel_rfl
theorem as_eb (w : World) : (Instr.typeAssert (.iface 51 (.agg #[])) 35 50 true).run Tryd.prog w = .ok (.tuple #[.agg #[.int .i64 0], .bool false]) w := by kernel_rfl
theorem as_ee (w : World) : (Instr.typeAssert (.iface 51 (.agg #[])) 35 51 true).run Tryd.prog w = .ok (.tuple #[.agg #[], .bool true]) w := by kernel_rfl

end Go.Proofs.YtcddjfdmodpnjabDoor
