/- Contracts of what draws numbers, signs and places out of a code. -/
import Derived.Test.YtcddjfdmodpnjaaDoorCommon
import Derived.Test.YtcddjfdmodpnjaaDoorDraw
import Derived.Test.YtcddjfdmodpnjaaDoorSign
namespace Go.Proofs.YtcddjfdmodpnjaaDoor
open Go.RowKit


set_option maxHeartbeats 400000 in
theorem big_any (ao : Option Addr) (len cap : Nat) (w : World) : Calls Tryd.prog 9 #[.slice ao len cap] w fun e w' => e = .returned (.bool (decide (1048576 < (len : Int)))) ∧ w' = w := by
  go_enter Tryd.func9, Tryd.ntmps9
  go_wp2_with fail
  go_ret
  exact ⟨rfl, rfl⟩

/-- A number is drawn, and the cursor goes on. -/
structure IntDrawn (w : World) (g : Nat) (ao : Option Addr) (len cap : Nat) (bs : List UInt8) (e : Ending) (w' : World) : Prop where
  out : ∃ z : Int, e = .returned (.int .i64 z) ∧ z ≤ 9223372036854775807 ∧ Cursor w' g ao len cap bs ∧ w.grownBy w' (some g)
/-- Bytes are drawn, in new memory, and the cursor goes on. -/
structure BytesDrawn (w : World) (g : Nat) (ao : Option Addr) (len cap : Nat) (bs : List UInt8) (L : Nat) (e : Ending) (w' : World) : Prop where
  out : ∃ (q m c : Nat) (ds : List UInt8), e = .returned (.slice (some ⟨q, 0, none⟩) m c) ∧ ds.length = m ∧ m ≤ L ∧ w.heap.size ≤ q ∧ Own w' q c ds ∧ Cursor w' g ao len cap bs ∧ w.grownBy w' (some g)
/-- A number; two numbers; a text; bytes and a number. -/
structure DrawnInt (w : World) (e : Ending) (w' : World) : Prop where
  out : ∃ z : Int, e = .returned (.int .i64 z) ∧ z ≤ 9223372036854775807 ∧ Below w.heap.size w w'
structure DrawnTwo (w : World) (e : Ending) (w' : World) : Prop where
  out : ∃ y z : Int, e = .returned (.tuple #[.int .i64 y, .int .i64 z]) ∧ y ≤ 9223372036854775807 ∧ z ≤ 9223372036854775807 ∧ Below w.heap.size w w'
structure DrawnText (w : World) (e : Ending) (w' : World) : Prop where
  out : ∃ s : ByteArray, e = .returned (.string s) ∧ Below w.heap.size w w'
structure DrawnBytesInt (w : World) (L : Nat) (e : Ending) (w' : World) : Prop where
  out : ∃ (q m c : Nat) (ds : List UInt8) (z : Int), e = .returned (.tuple #[.slice (some ⟨q, 0, none⟩) m c, .int .i64 z]) ∧ ds.length = m ∧ m ≤ L ∧ z ≤ 9223372036854775807 ∧ w.heap.size ≤ q ∧ Own w' q c ds ∧ Below w.heap.size w w'

set_option maxHeartbeats 400000 in
theorem l2Sign_any (g : Nat) (ao : Option Addr) (len cap : Nat) (bs : List UInt8) (w : World) (hl : len ≤ 1073741824) (h : Cursor w g ao len cap bs) :
    Calls Tryd.prog 72 #[.pointer (some ⟨g, 0, none⟩)] w (IntDrawn w g ao len cap bs) := by
  have H : Hd (Cursor w g ao len cap bs) := ⟨h⟩
  have hlt := h.lt
  clear h
  go_enter Tryd.func72, Tryd.ntmps72
  go_wp2_with fail
  refine (l1Int_any g w.heap.size 19 19 ao len cap bs [0, 97, 90, 127, 128, 164, 233, 2047, 2048, 8364, 1072, 1102, 1025, 12354, 12450, 352, 65535, 65536, 1114111] _ hl (by omega) (by omega) rfl (by omega) ?cells (H.out.below ((Below.refl _ w).alloc (Nat.le_refl _) _))).mono ?_
  case cells => exact lit_ints w [0, 97, 90, 127, 128, 164, 233, 2047, 2048, 8364, 1072, 1102, 1025, 12354, 12450, 352, 65535, 65536, 1114111] _
  rintro e w1 ⟨z, hz, rfl, hC, hG⟩
  have HC : Hd (Cursor w1 g ao len cap bs) := ⟨hC⟩
  have HG : Hd (w.grownBy w1 (some g)) := ⟨grown_of_alloc hG⟩
  have HZ : Hd (z ≤ 9223372036854775807) := ⟨(by decide : ∀ z ∈ ([0, 97, 90, 127, 128, 164, 233, 2047, 2048, 8364, 1072, 1102, 1025, 12354, 12450, 352, 65535, 65536, 1114111] : List Int), z ≤ 9223372036854775807) z hz⟩
  clear hC hG hz
  go_wp2_with fail
  go_ret
  exact ⟨z, rfl, HZ.out, HC.out, HG.out⟩

end Go.Proofs.YtcddjfdmodpnjaaDoor
