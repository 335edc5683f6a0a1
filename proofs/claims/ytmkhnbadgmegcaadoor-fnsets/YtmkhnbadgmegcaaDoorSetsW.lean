/- What the walk of FnSets carries from call to call. -/
import Derived.Test.YtmkhnbadgmegcaaDoorDrawS
import Derived.Test.YtmkhnbadgmegcaaDoorLaid
namespace Go.Proofs.YtmkhnbadgmegcaaDoor
open Go.RowKit

/-- Nothing of the world w is turned, the tables lie in their variables, the code reads as it did. -/
structure Stays (w : World) (ao : Option Addr) (len : Nat) (bs : List UInt8) (W : World) : Prop where
  below : Below w.heap.size w W
  names : NamesAt W
  tabs : TabsAt W
  reads : Reads W ao len bs
theorem Stays.start {w : World} {ao : Option Addr} {len : Nat} {bs : List UInt8} (h : NamesAt w ∧ TabsAt w) (hr : Reads w ao len bs) : Stays w ao len bs w := ⟨Below.refl _ _, h.1, h.2, hr⟩
theorem Stays.next {w : World} {ao : Option Addr} {len : Nat} {bs : List UInt8} {W W' : World} (h : Stays w ao len bs W) (hb : Below W.heap.size W W') : Stays w ao len bs W' :=
  ⟨Below.next h.below hb, h.names.below hb, h.tabs.below hb, h.reads.below rfl hb⟩

theorem implByteSign_is {cs b n : Int} {ok : Bool} (hn : Hd (bsN cs b = n)) (ho : Hd (bsOk cs b = ok)) (w : World) (T : TabsAt w) :
    Calls Tryd.prog 10 #[.int .i64 cs, .int .i64 b] w fun e w' => e = .returned (.tuple #[.int .i64 n, .bool ok]) ∧ w' = w := by
  rw [← hn.out, ← ho.out]; exact implByteSign_any cs b w ⟨T⟩

theorem specByteSign_is {cs b n : Int} {ok : Bool} (hn : Hd (bsN cs b = n)) (ho : Hd (bsOk cs b = ok)) (w : World) :
    Calls Tryd.prog 11 #[.int .i64 cs, .int .i64 b] w fun e w' => e = .returned (.tuple #[.int .i64 n, .bool ok]) ∧ Below w.heap.size w w' := by
  rw [← hn.out, ← ho.out]; exact specByteSign_any cs b w

theorem implSignByte_is {cs b n : Int} {ok : Bool} (hn : Hd (sbN cs b = n)) (ho : Hd (sbOk cs b = ok)) (w : World) (T : TabsAt w) :
    Calls Tryd.prog 13 #[.int .i64 cs, .int .i64 b] w fun e w' => e = .returned (.tuple #[.int .i64 n, .bool ok]) ∧ w' = w := by
  rw [← hn.out, ← ho.out]; exact implSignByte_any cs b w ⟨T⟩

theorem specSignByte_is {cs b n : Int} {ok : Bool} (hn : Hd (sbN cs b = n)) (ho : Hd (sbOk cs b = ok)) (w : World) :
    Calls Tryd.prog 14 #[.int .i64 cs, .int .i64 b] w fun e w' => e = .returned (.tuple #[.int .i64 n, .bool ok]) ∧ Below w.heap.size w w' := by
  rw [← hn.out, ← ho.out]; exact specSignByte_any cs b w

theorem implCsName_is {cs : Int} {x : ByteArray} (hx : Hd (csName cs = x)) (w : World) (T : NamesAt w) :
    Calls Tryd.prog 18 #[.int .i64 cs] w fun e w' => e = .returned (.string x) ∧ w' = w := by
  rw [← hx.out]; exact implCsName_any cs w ⟨T⟩

theorem specCsName_is {cs : Int} {x : ByteArray} (hx : Hd (csName cs = x)) (w : World) :
    Calls Tryd.prog 19 #[.int .i64 cs] w fun e w' => e = .returned (.string x) ∧ Below w.heap.size w w' := by
  rw [← hx.out]; exact specCsName_any cs w

theorem implCsOf_is {s : ByteArray} {x : Int} (hx : Hd (csOf s = x)) (w : World) (T : NamesAt w) :
    Calls Tryd.prog 20 #[.string s] w fun e w' => e = .returned (.int .i64 x) ∧ w' = w := by
  rw [← hx.out]; exact implCsOf_any s w ⟨T⟩

theorem specCsOf_is {s : ByteArray} {x : Int} (hx : Hd (csOf s = x)) (w : World) :
    Calls Tryd.prog 21 #[.string s] w fun e w' => e = .returned (.int .i64 x) ∧ Below w.heap.size w w' := by
  rw [← hx.out]; exact specCsOf_any s w

end Go.Proofs.YtmkhnbadgmegcaaDoor
