/- Contracts of what draws numbers, signs and places out of a code. -/
import Derived.Test.YtbkmpijodgmloaaDoorDraw
import Derived.Test.YtbkmpijodgmloaaDoorSign
namespace Go.Proofs.YtbkmpijodgmloaaDoor
open Go.RowKit

theorem lit_ints (w : World) (zs : List Int) (T : TypeId) : ∀ j, j < zs.length → (w.alloc (.cells (zs.map (Value.int .i64)).toArray T)).cell? ⟨w.heap.size, j, none⟩ = some (.int .i64 (zs.getD j 0)) := by
  intro j hj
  rw [cell_of_row (w.alloc _) _ j _ _ (0, 0) (heap_alloc_new w _)]
  simp [List.getD, List.getElem?_eq_getElem hj]
theorem lit_strs (w : World) (zs : List ByteArray) (T : TypeId) : ∀ j, j < zs.length → (w.alloc (.cells (zs.map Value.string).toArray T)).cell? ⟨w.heap.size, j, none⟩ = some (.string (zs.getD j ⟨#[]⟩)) := by
  intro j hj
  rw [cell_of_row (w.alloc _) _ j _ _ (0, 0) (heap_alloc_new w _)]
  simp [List.getD, List.getElem?_eq_getElem hj]
theorem below_grows {B : Nat} {a w w' : World} {g : Nat} (h : Below B a w) (hg : w.grownBy w' (some g)) (hB : B ≤ w.heap.size) (hr : B ≤ g) : Below B a w' := h.grown hg hB (fun k e => by simp at e; omega)
theorem grown_below {w w' : World} (h : Below w.heap.size w w') (r : Option Nat) : w.grownBy w' r := ⟨h.os, h.tape, h.output, h.size, fun k hk _ => h.block k hk⟩

set_option maxHeartbeats 400000 in
theorem big_any (ao : Option Addr) (len cap : Nat) (w : World) : Calls Tryd.prog 8 #[.slice ao len cap] w fun e w' => e = .returned (.bool (decide (1048576 < (len : Int)))) ∧ w' = w := by
  go_enter Tryd.func8, Tryd.ntmps8
  go_wp2_with fail
  go_ret
  exact ⟨rfl, rfl⟩

/-- A number is drawn, and the cursor goes on. -/
structure IntDrawn (w : World) (g : Nat) (ao : Option Addr) (len cap : Nat) (bs : List UInt8) (e : Ending) (w' : World) : Prop where
  out : ∃ z : Int, e = .returned (.int .i64 z) ∧ z ≤ 9223372036854775807 ∧ Cursor w' g ao len cap bs ∧ w.grownBy w' (some g)
/-- Bytes are drawn, in new memory, and the cursor goes on. -/
structure BytesDrawn (w : World) (g : Nat) (ao : Option Addr) (len cap : Nat) (bs : List UInt8) (L : Nat) (e : Ending) (w' : World) : Prop where
  out : ∃ (q m c : Nat) (ds : List UInt8), e = .returned (.slice (some ⟨q, 0, none⟩) m c) ∧ ds.length = m ∧ m ≤ L ∧ w.heap.size ≤ q ∧ Own w' q c ds ∧ Cursor w' g ao len cap bs ∧ w.grownBy w' (some g)
/-- A number; two numbers; a text; bytes and a number. -/
structure DrawnInt (w : World) (e : Ending) (w' : World) : Prop where
  out : ∃ z : Int, e = .returned (.int .i64 z) ∧ z ≤ 9223372036854775807 ∧ Below w.heap.size w w'
structure DrawnTwo (w : World) (e : Ending) (w' : World) : Prop where
  out : ∃ y z : Int, e = .returned (.tuple #[.int .i64 y, .int .i64 z]) ∧ y ≤ 9223372036854775807 ∧ z ≤ 9223372036854775807 ∧ Below w.heap.size w w'
structure DrawnText (w : World) (e : Ending) (w' : World) : Prop where
  out : ∃ s : ByteArray, e = .returned (.string s) ∧ Below w.heap.size w w'
structure DrawnBytesInt (w : World) (L : Nat) (e : Ending) (w' : World) : Prop where
  out : ∃ (q m c : Nat) (ds : List UInt8) (z : Int), e = .returned (.tuple #[.slice (some ⟨q, 0, none⟩) m c, .int .i64 z]) ∧ ds.length = m ∧ m ≤ L ∧ z ≤ 9223372036854775807 ∧ w.heap.size ≤ q ∧ Own w' q c ds ∧ Below w.heap.size w w'

set_option maxHeartbeats 400000 in
theorem l2Sign_any (g : Nat) (ao : Option Addr) (len cap : Nat) (bs : List UInt8) (w : World) (hl : len ≤ 1073741824) (h : Cursor w g ao len cap bs) :
    Calls Tryd.prog 37 #[.pointer (some ⟨g, 0, none⟩)] w (IntDrawn w g ao len cap bs) := by
  have H : Hd (Cursor w g ao len cap bs) := ⟨h⟩
  have hlt := h.lt
  clear h
  go_enter Tryd.func37, Tryd.ntmps37
  go_wp2_with fail
  refine (l1Int_any g w.heap.size 19 19 ao len cap bs [0, 97, 90, 127, 128, 164, 233, 2047, 2048, 8364, 1072, 1102, 1025, 12354, 12450, 352, 65535, 65536, 1114111] _ hl (by omega) (by omega) rfl (by omega) ?cells (H.out.below ((Below.refl _ w).alloc (Nat.le_refl _) _))).mono ?_
  case cells => exact lit_ints w [0, 97, 90, 127, 128, 164, 233, 2047, 2048, 8364, 1072, 1102, 1025, 12354, 12450, 352, 65535, 65536, 1114111] _
  rintro e w1 ⟨z, hz, rfl, hC, hG⟩
  have HC : Hd (Cursor w1 g ao len cap bs) := ⟨hC⟩
  have HG : Hd (w.grownBy w1 (some g)) := ⟨grown_of_alloc hG⟩
  have HZ : Hd (z ≤ 9223372036854775807) := ⟨(by decide : ∀ z ∈ ([0, 97, 90, 127, 128, 164, 233, 2047, 2048, 8364, 1072, 1102, 1025, 12354, 12450, 352, 65535, 65536, 1114111] : List Int), z ≤ 9223372036854775807) z hz⟩
  clear hC hG hz
  go_wp2_with fail
  go_ret
  exact ⟨z, rfl, HZ.out, HC.out, HG.out⟩

set_option maxHeartbeats 400000 in
theorem l2Any_any (g : Nat) (ao : Option Addr) (len cap : Nat) (bs : List UInt8) (w : World) (hl : len ≤ 1073741824) (h : Cursor w g ao len cap bs) :
    Calls Tryd.prog 34 #[.pointer (some ⟨g, 0, none⟩)] w (IntDrawn w g ao len cap bs) := by
  have H : Hd (Cursor w g ao len cap bs) := ⟨h⟩
  clear h
  go_enter Tryd.func34, Tryd.ntmps34
  go_wp2_with fail
  refine (l1Once_any g ao len cap bs 5 _ hl (by omega) (by omega) H.out).mono ?_
  rintro e w1 ⟨b, rfl, hC1, hG1⟩
  have C1 : Hd (Cursor w1 g ao len cap bs) := ⟨hC1⟩
  have G1 : Hd (w.grownBy w1 (some g)) := ⟨hG1⟩
  have hlt := hC1.lt
  clear hC1 hG1 H
  cases b with
  | true =>
    go_wp2_with fail
    refine (l1Int_any g w1.heap.size 7 7 ao len cap bs [-1, 55296, 57343, 55295, 57344, 1114112, 9223372036854775807] _ hl (by omega) (by omega) rfl (by omega) ?cells (C1.out.below ((Below.refl _ w1).alloc (Nat.le_refl _) _))).mono ?_
    case cells => exact lit_ints w1 [-1, 55296, 57343, 55295, 57344, 1114112, 9223372036854775807] _
    rintro e w2 ⟨z, hz, rfl, hC, hG⟩
    have HC : Hd (Cursor w2 g ao len cap bs) := ⟨hC⟩
    have HG : Hd (w.grownBy w2 (some g)) := ⟨grown_next G1.out (grown_of_alloc hG)⟩
    have HZ : Hd (z ≤ 9223372036854775807) := ⟨(by decide : ∀ z ∈ ([-1, 55296, 57343, 55295, 57344, 1114112, 9223372036854775807] : List Int), z ≤ 9223372036854775807) z hz⟩
    clear hC hG hz
    go_wp2_with fail
    go_ret
    exact ⟨z, rfl, HZ.out, HC.out, HG.out⟩
  | false =>
    go_wp2_with fail
    refine (l2Sign_any g ao len cap bs _ hl C1.out).mono ?_
    rintro e w2 ⟨z, rfl, hz, hC, hG⟩
    have HC : Hd (Cursor w2 g ao len cap bs) := ⟨hC⟩
    have HG : Hd (w.grownBy w2 (some g)) := ⟨grown_next G1.out hG⟩
    have HZ : Hd (z ≤ 9223372036854775807) := ⟨hz⟩
    clear hC hG hz
    go_wp2_with fail
    go_ret
    exact ⟨z, rfl, HZ.out, HC.out, HG.out⟩

set_option maxHeartbeats 400000 in
theorem l1At_any (g : Nat) (ao : Option Addr) (len cap : Nat) (bs : List UInt8) (ad : Option Addr) (L C : Nat) (w : World) (hl : len ≤ 1073741824) (hL : L ≤ 1073741824) (h : Cursor w g ao len cap bs) :
    Calls Tryd.prog 30 #[.pointer (some ⟨g, 0, none⟩), .slice ad L C] w (IntDrawn w g ao len cap bs) := by
  have H : Hd (Cursor w g ao len cap bs) := ⟨h⟩
  have hlt := h.lt
  clear h
  go_enter Tryd.func30, Tryd.ntmps30
  go_wp2_with fail
  refine (l1Int_any g w.heap.size 9 9 ao len cap bs [0, 0, 0, 1, 2, (L : Int), (L : Int) - 1, -1, 9223372036854775807] _ hl (by omega) (by omega) rfl (by omega) ?cells (H.out.below ((Below.refl _ w).alloc (Nat.le_refl _) _))).mono ?_
  case cells => exact lit_ints w [0, 0, 0, 1, 2, (L : Int), (L : Int) - 1, -1, 9223372036854775807] _
  rintro e w1 ⟨z, hz, rfl, hC, hG⟩
  have HC : Hd (Cursor w1 g ao len cap bs) := ⟨hC⟩
  have HG : Hd (w.grownBy w1 (some g)) := ⟨grown_of_alloc hG⟩
  have HZ : Hd (z ≤ 9223372036854775807) := ⟨by simp only [List.mem_cons, List.not_mem_nil, or_false] at hz; omega⟩
  clear hC hG hz
  go_wp2_with fail
  go_ret
  exact ⟨z, rfl, HZ.out, HC.out, HG.out⟩

end Go.Proofs.YtbkmpijodgmloaaDoor
