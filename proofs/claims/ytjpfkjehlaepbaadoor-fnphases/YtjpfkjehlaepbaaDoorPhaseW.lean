/- What the walk of the law on phases carries from call to call. -/
import Derived.Test.YtjpfkjehlaepbaaDoorDrawPh
import Derived.Test.YtjpfkjehlaepbaaDoorPhaseF
import Derived.Test.YtjpfkjehlaepbaaDoorPhaseR
import Derived.Test.YtjpfkjehlaepbaaDoorAtV
import Derived.Test.YtjpfkjehlaepbaaDoorBig
namespace Go.Proofs.YtjpfkjehlaepbaaDoor
set_option maxRecDepth 4000
open Go.RowKit

/-- Nothing of the world w is turned, the names lie in their variable, the code reads as it did. -/
structure PhStays (w : World) (ao : Option Addr) (len : Nat) (bs : List UInt8) (W : World) : Prop where
  below : Below w.heap.size w W
  names : PhAt W
  reads : Reads W ao len bs
theorem PhStays.start {w : World} {ao : Option Addr} {len : Nat} {bs : List UInt8} (h : PhAt w) (hr : Reads w ao len bs) : PhStays w ao len bs w := ⟨Below.refl _ _, h, hr⟩
theorem PhStays.next {w : World} {ao : Option Addr} {len : Nat} {bs : List UInt8} {W W' : World} (h : PhStays w ao len bs W) (hb : Below W.heap.size W W') : PhStays w ao len bs W' :=
  ⟨Below.next h.below hb, h.names.below hb, h.reads.below rfl hb⟩

theorem implNextOk_is {a b : Int} {x : Bool} (hx : Hd (nextB a b = x)) (w : World) :
    Calls Tryd.prog 14 #[.int .i64 a, .int .i64 b] w fun e w' => e = .returned (.bool x) ∧ w' = w := by
  rw [← hx.out]; exact implNextOk_any a b w

theorem specNextOk_is {a b : Int} {x : Bool} (hx : Hd (nextB a b = x)) (w : World) :
    Calls Tryd.prog 15 #[.int .i64 a, .int .i64 b] w fun e w' => e = .returned (.bool x) ∧ w' = w := by
  rw [← hx.out]; exact specNextOk_any a b w

theorem implReaches_is {a b : Int} {x : Bool} (hx : Hd (reaB a b = x)) (w : World) :
    Calls Tryd.prog 16 #[.int .i64 a, .int .i64 b] w fun e w' => e = .returned (.bool x) ∧ w' = w := by
  rw [← hx.out]; exact implReaches_any a b w

theorem specReaches_is {a b : Int} {x : Bool} (hx : Hd (reaB a b = x)) (w : World) :
    Calls Tryd.prog 17 #[.int .i64 a, .int .i64 b] w fun e w' => e = .returned (.bool x) ∧ w' = w := by
  rw [← hx.out]; exact specReaches_any a b w

theorem implFinal_is {a : Int} {x : Bool} (hx : Hd (finB a = x)) (w : World) :
    Calls Tryd.prog 18 #[.int .i64 a] w fun e w' => e = .returned (.bool x) ∧ w' = w := by
  rw [← hx.out]; exact implFinal_any a w

theorem specFinal_is {a : Int} {x : Bool} (hx : Hd (finB a = x)) (w : World) :
    Calls Tryd.prog 19 #[.int .i64 a] w fun e w' => e = .returned (.bool x) ∧ w' = w := by
  rw [← hx.out]; exact specFinal_any a w

theorem implWalks_is {a : Int} {x : Bool} (hx : Hd (walB a = x)) (w : World) :
    Calls Tryd.prog 20 #[.int .i64 a] w fun e w' => e = .returned (.bool x) ∧ w' = w := by
  rw [← hx.out]; exact implWalks_any a w

theorem specWalks_is {a : Int} {x : Bool} (hx : Hd (walB a = x)) (w : World) :
    Calls Tryd.prog 21 #[.int .i64 a] w fun e w' => e = .returned (.bool x) ∧ w' = w := by
  rw [← hx.out]; exact specWalks_any a w

theorem implPhaseName_is {p : Int} {x : ByteArray} (hx : Hd (phName p = x)) (w : World) (T : PhAt w) :
    Calls Tryd.prog 22 #[.int .i64 p] w fun e w' => e = .returned (.string x) ∧ w' = w := by
  rw [← hx.out]; exact implPhaseName_any p w ⟨T⟩

theorem specPhaseName_is {p : Int} {x : ByteArray} (hx : Hd (phName p = x)) (w : World) :
    Calls Tryd.prog 23 #[.int .i64 p] w fun e w' => e = .returned (.string x) ∧ Below w.heap.size w w' := by
  rw [← hx.out]; exact specPhaseName_any p w

theorem implPhaseOf_is {s : ByteArray} {x : Int} (hx : Hd (phOf s = x)) (w : World) (T : PhAt w) :
    Calls Tryd.prog 24 #[.string s] w fun e w' => e = .returned (.int .i64 x) ∧ w' = w := by
  rw [← hx.out]; exact implPhaseOf_any s w ⟨T⟩

theorem specPhaseOf_is {s : ByteArray} {x : Int} (hx : Hd (phOf s = x)) (w : World) :
    Calls Tryd.prog 25 #[.string s] w fun e w' => e = .returned (.int .i64 x) ∧ Below w.heap.size w w' := by
  rw [← hx.out]; exact specPhaseOf_any s w

end Go.Proofs.YtjpfkjehlaepbaaDoor
