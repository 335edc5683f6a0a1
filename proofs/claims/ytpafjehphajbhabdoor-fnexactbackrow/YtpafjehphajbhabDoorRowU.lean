/- Contracts of l9Old, l9New, l9None and RowText, in the specification. -/
import Derived.Test.YtpafjehphajbhabDoorRowS
import Derived.Test.YtpafjehphajbhabDoorRowP
import Derived.Test.YtpafjehphajbhabDoorCellU
namespace Go.Proofs.YtpafjehphajbhabDoor
set_option maxRecDepth 4000
open Go.RowKit

/-- A row in its box. -/
structure RBox (w : World) (d : Nat) (k : ByteArray) (t1 : Int) (a1 : Option Addr) (n1 c1 : Nat) (t2 : Int) (a2 : Option Addr) (n2 c2 : Nat) (has : Int) (asd : Bool) (wx : World) : Prop where
  box : wx.heap[d]? = some (.cells #[.string k, .int .i64 t1, .slice a1 n1 c1, .int .i64 t2, .slice a2 n2 c2, .int .i64 has, .bool asd] 30 (0, 0))
  bel : Below w.heap.size w wx
theorem RBox.below {w : World} {d : Nat} {k : ByteArray} {t1 : Int} {a1 : Option Addr} {n1 c1 : Nat} {t2 : Int} {a2 : Option Addr} {n2 c2 : Nat} {has : Int} {asd : Bool} {wx wy : World} (h : RBox w d k t1 a1 n1 c1 t2 a2 n2 c2 has asd wx) (hB : Below wx.heap.size wx wy) : RBox w d k t1 a1 n1 c1 t2 a2 n2 c2 has asd wy :=
  ⟨(hB.block _ (lt_of_block h.box)).trans h.box, Below.next h.bel hB⟩
theorem rBox_new (w : World) (k : ByteArray) (t1 : Int) (a1 : Option Addr) (n1 c1 : Nat) (t2 : Int) (a2 : Option Addr) (n2 c2 : Nat) (has : Int) (asd : Bool) :
    RBox w w.heap.size k t1 a1 n1 c1 t2 a2 n2 c2 has asd (w.alloc (.cells #[.string k, .int .i64 t1, .slice a1 n1 c1, .int .i64 t2, .slice a2 n2 c2, .int .i64 has, .bool asd] 30)) := ⟨alloc_new w _ rfl, below_lit w _⟩

set_option maxHeartbeats 400000 in
theorem l9Old_any (k : ByteArray) (t1 : Int) (a1 : Option Addr) (n1 c1 : Nat) (t2 : Int) (a2 : Option Addr) (n2 c2 : Nat) (has : Int) (asd : Bool) (w : World) :
    Calls Tryd.prog 44 #[.agg #[.string k, .int .i64 t1, .slice a1 n1 c1, .int .i64 t2, .slice a2 n2 c2, .int .i64 has, .bool asd]] w fun e w' => e = .returned (.bool (oldB has)) ∧ Below w.heap.size w w' := by
  unfold oldB
  go_enter Tryd.func44, Tryd.ntmps44
  go_wp2_with fail
  go_ret
  exact ⟨rfl, below_lit w _⟩
set_option maxHeartbeats 400000 in
theorem l9New_any (k : ByteArray) (t1 : Int) (a1 : Option Addr) (n1 c1 : Nat) (t2 : Int) (a2 : Option Addr) (n2 c2 : Nat) (has : Int) (asd : Bool) (w : World) :
    Calls Tryd.prog 41 #[.agg #[.string k, .int .i64 t1, .slice a1 n1 c1, .int .i64 t2, .slice a2 n2 c2, .int .i64 has, .bool asd]] w fun e w' => e = .returned (.bool (newB has)) ∧ Below w.heap.size w w' := by
  unfold newB
  go_enter Tryd.func41, Tryd.ntmps41
  go_wp2_with fail
  go_ret
  exact ⟨rfl, below_lit w _⟩

set_option maxHeartbeats 400000 in
theorem l9None_any (t : Int) (ao : Option Addr) (n c : Nat) (w : World) :
    Calls Tryd.prog 68 #[.agg #[.int .i64 t, .slice ao n c]] w fun e w' => e = .returned (.bool (noneB t n)) ∧ Below w.heap.size w w' := by
  unfold noneB
  cases ht : (t == 0) with
  | false =>
    go_enter Tryd.func68, Tryd.ntmps68
    go_wp2_with fail
    go_ret
    exact ⟨rfl, below_lit w _⟩
  | true =>
    go_enter Tryd.func68, Tryd.ntmps68
    go_wp2_with fail
    go_ret
    exact ⟨rfl, below_lit w _⟩

end Go.Proofs.YtpafjehphajbhabDoor
