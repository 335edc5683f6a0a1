/- Contracts of what FnSets draws out of a code. -/
import Derived.Test.YtmkhnbadgmegcaaDoorDraw
import Derived.Test.YtmkhnbadgmegcaaDoorSetsV
namespace Go.Proofs.YtmkhnbadgmegcaaDoor
open Go.RowKit

theorem below_grows {B : Nat} {a w w' : World} {g : Nat} (h : Below B a w) (hg : w.grownBy w' (some g)) (hB : B ≤ w.heap.size) (hr : B ≤ g) : Below B a w' := h.grown hg hB (fun k e => by simp at e; omega)
theorem grown_below {w w' : World} (h : Below w.heap.size w w') (r : Option Nat) : w.grownBy w' r := ⟨h.os, h.tape, h.output, h.size, fun k hk _ => h.block k hk⟩

set_option maxHeartbeats 400000 in
theorem big_any (ao : Option Addr) (len cap : Nat) (w : World) : Calls Tryd.prog 8 #[.slice ao len cap] w fun e w' => e = .returned (.bool (decide (1048576 < (len : Int)))) ∧ w' = w := by
  go_enter Tryd.func8, Tryd.ntmps8
  go_wp2_with fail
  go_ret
  exact ⟨rfl, rfl⟩

theorem grown_of_alloc {w w' : World} {o : Obj} {r : Option Nat} (h : (w.alloc o).grownBy w' r) : w.grownBy w' r :=
  ⟨h.os, h.tape, h.output, by have := h.size; simp at this; omega, fun k hk hne => (h.block k (by simp; omega) hne).trans (Below.heap_alloc w o k hk)⟩

/-- A number is drawn, and the cursor goes on. -/
structure IntDrawn (w : World) (g : Nat) (ao : Option Addr) (len cap : Nat) (bs : List UInt8) (e : Ending) (w' : World) : Prop where
  out : ∃ z : Int, e = .returned (.int .i64 z) ∧ Cursor w' g ao len cap bs ∧ w.grownBy w' (some g)

set_option maxHeartbeats 400000 in
theorem l2Sign_any (g : Nat) (ao : Option Addr) (len cap : Nat) (bs : List UInt8) (w : World) (hl : len ≤ 1073741824) (h : Cursor w g ao len cap bs) :
    Calls Tryd.prog 38 #[.pointer (some ⟨g, 0, none⟩)] w (IntDrawn w g ao len cap bs) := by
  have H : Hd (Cursor w g ao len cap bs) := ⟨h⟩
  have hlt := h.lt
  clear h
  go_enter Tryd.func38, Tryd.ntmps38
  go_wp2_with fail
  refine (l1Int_any g w.heap.size 19 19 ao len cap bs [0, 97, 90, 127, 128, 164, 233, 2047, 2048, 8364, 1072, 1102, 1025, 12354, 12450, 352, 65535, 65536, 1114111] _ hl (by omega) (by omega) rfl (by omega) ?cells (H.out.below ((Below.refl _ w).alloc (Nat.le_refl _) _))).mono ?_
  case cells => exact lit_ints w [0, 97, 90, 127, 128, 164, 233, 2047, 2048, 8364, 1072, 1102, 1025, 12354, 12450, 352, 65535, 65536, 1114111] _
  rintro e w1 ⟨z, hz, rfl, hC, hG⟩
  have HC : Hd (Cursor w1 g ao len cap bs) := ⟨hC⟩
  have HG : Hd (w.grownBy w1 (some g)) := ⟨grown_of_alloc hG⟩
  clear hC hG hz
  go_wp2_with fail
  go_ret
  exact ⟨z, rfl, HC.out, HG.out⟩

set_option maxHeartbeats 400000 in
theorem l2Any_any (g : Nat) (ao : Option Addr) (len cap : Nat) (bs : List UInt8) (w : World) (hl : len ≤ 1073741824) (h : Cursor w g ao len cap bs) :
    Calls Tryd.prog 31 #[.pointer (some ⟨g, 0, none⟩)] w (IntDrawn w g ao len cap bs) := by
  have H : Hd (Cursor w g ao len cap bs) := ⟨h⟩
  clear h
  go_enter Tryd.func31, Tryd.ntmps31
  go_wp2_with fail
  refine (l1Once_any g ao len cap bs 5 _ hl (by omega) (by omega) H.out).mono ?_
  rintro e w1 ⟨b, rfl, hC1, hG1⟩
  have C1 : Hd (Cursor w1 g ao len cap bs) := ⟨hC1⟩
  have G1 : Hd (w.grownBy w1 (some g)) := ⟨hG1⟩
  have hlt := hC1.lt
  clear hC1 hG1 H
  cases b with
  | true =>
    go_wp2_with fail
    refine (l1Int_any g w1.heap.size 7 7 ao len cap bs [-1, 55296, 57343, 55295, 57344, 1114112, 9223372036854775807] _ hl (by omega) (by omega) rfl (by omega) ?cells (C1.out.below ((Below.refl _ w1).alloc (Nat.le_refl _) _))).mono ?_
    case cells => exact lit_ints w1 [-1, 55296, 57343, 55295, 57344, 1114112, 9223372036854775807] _
    rintro e w2 ⟨z, hz, rfl, hC, hG⟩
    have HC : Hd (Cursor w2 g ao len cap bs) := ⟨hC⟩
    have HG : Hd (w.grownBy w2 (some g)) := ⟨grown_next G1.out (grown_of_alloc hG)⟩
    clear hC hG hz
    go_wp2_with fail
    go_ret
    exact ⟨z, rfl, HC.out, HG.out⟩
  | false =>
    go_wp2_with fail
    refine (l2Sign_any g ao len cap bs _ hl C1.out).mono ?_
    rintro e w2 ⟨z, rfl, hC, hG⟩
    have HC : Hd (Cursor w2 g ao len cap bs) := ⟨hC⟩
    have HG : Hd (w.grownBy w2 (some g)) := ⟨grown_next G1.out hG⟩
    clear hC hG
    go_wp2_with fail
    go_ret
    exact ⟨z, rfl, HC.out, HG.out⟩

theorem cast_byte {x : Nat} (h : x < 256) : wrap64 (x : Int) = (x : Int) := wrap64_in (by omega) (by omega)

/-- The code's byte at a place, or a number of it. -/
def atV (bs : List UInt8) (i : Nat) : Nat := if i < bs.length then (bs.getD i 0).toNat else (i * 31 + bs.length * 7) % 256
theorem atV_lt (bs : List UInt8) (i : Nat) : atV bs i < 256 := by
  unfold atV; split
  · exact (bs.getD i 0).toNat_lt
  · exact Nat.mod_lt _ (by omega)

set_option maxHeartbeats 400000 in
theorem at_in (b off len cap : Nat) (y : UInt8) (i : Nat) (w : World) (hi : (i : Int) < (len : Int)) (hc : w.cell? ⟨b, off + i, none⟩ = some (.int .u8 (y.toNat : Int))) :
    Calls Tryd.prog 15 #[.slice (some ⟨b, off, none⟩) len cap, .int .i64 (i : Int)] w fun e w' => e = .returned (.int .i64 (y.toNat : Int)) ∧ w' = w := by
  have hx : Hd (y.toNat < 256) := ⟨y.toNat_lt⟩
  have hw := cast_byte hx.out
  generalize y.toNat = x at *
  go_enter Tryd.func15, Tryd.ntmps15
  go_wp2_with fail
  go_ret
  exact ⟨ret_int hw, rfl⟩

set_option maxHeartbeats 400000 in
theorem at_out (ao : Option Addr) (len cap : Nat) (i : Nat) (w : World) (hl : len ≤ 1073741824) (h100 : i ≤ 1000) (hi : ¬ (i : Int) < (len : Int)) :
    Calls Tryd.prog 15 #[.slice ao len cap, .int .i64 (i : Int)] w fun e w' => e = .returned (.int .i64 (((i * 31 + len * 7) % 256 : Nat) : Int)) ∧ w' = w := by
  go_enter Tryd.func15, Tryd.ntmps15
  go_wp2_with fail
  go_ret
  exact ⟨ret_int (by omega), rfl⟩

theorem at_any (ao : Option Addr) (len cap : Nat) (bs : List UInt8) (i : Nat) (w : World) (hl : len ≤ 1073741824) (h100 : i ≤ 1000) (hr : Reads w ao len bs) :
    Calls Tryd.prog 15 #[.slice ao len cap, .int .i64 (i : Int)] w fun e w' => e = .returned (.int .i64 (atV bs i : Int)) ∧ w' = w := by
  by_cases hi : (i : Int) < (len : Int)
  · rcases hr.2 with h0 | ⟨b, off, rfl, hc⟩
    · omega
    · have e : atV bs i = (bs.getD i 0).toNat := by unfold atV; rw [if_pos (by rw [hr.1]; omega)]
      rw [e]
      exact at_in b off len cap _ i w hi (hc i (by omega))
  · have e : atV bs i = (i * 31 + len * 7) % 256 := by unfold atV; rw [if_neg (by rw [hr.1]; omega), hr.1]
    rw [e]
    exact at_out ao len cap i w hl h100 hi
theorem at_two (ao : Option Addr) (len cap : Nat) (bs : List UInt8) (w : World) (hl : len ≤ 1073741824) (hr : Reads w ao len bs) :
    Calls Tryd.prog 15 #[.slice ao len cap, .int .i64 2] w fun e w' => e = .returned (.int .i64 (atV bs 2 : Int)) ∧ w' = w := at_any ao len cap bs 2 w hl (by omega) hr
theorem at_three (ao : Option Addr) (len cap : Nat) (bs : List UInt8) (w : World) (hl : len ≤ 1073741824) (hr : Reads w ao len bs) :
    Calls Tryd.prog 15 #[.slice ao len cap, .int .i64 3] w fun e w' => e = .returned (.int .i64 (atV bs 3 : Int)) ∧ w' = w := at_any ao len cap bs 3 w hl (by omega) hr

/-- A number; two numbers; a text. -/
structure DrawnInt (w : World) (e : Ending) (w' : World) : Prop where
  out : ∃ z : Int, e = .returned (.int .i64 z) ∧ Below w.heap.size w w'
structure DrawnTwo (w : World) (e : Ending) (w' : World) : Prop where
  out : ∃ y z : Int, e = .returned (.tuple #[.int .i64 y, .int .i64 z]) ∧ Below w.heap.size w w'
structure DrawnText (w : World) (e : Ending) (w' : World) : Prop where
  out : ∃ s : ByteArray, e = .returned (.string s) ∧ Below w.heap.size w w'

set_option maxHeartbeats 400000 in
theorem l3Any_any (g : Nat) (ao : Option Addr) (len cap : Nat) (bs : List UInt8) (w : World) (hl : len ≤ 1073741824) (h : Cursor w g ao len cap bs) :
    Calls Tryd.prog 23 #[.pointer (some ⟨g, 0, none⟩)] w (IntDrawn w g ao len cap bs) := by
  have H : Hd (Cursor w g ao len cap bs) := ⟨h⟩
  have hlt := h.lt
  clear h
  go_enter Tryd.func23, Tryd.ntmps23
  go_wp2_with fail
  refine (l1Int_any g w.heap.size 8 8 ao len cap bs [0, 1, 2, 3, 4, 5, 6, -1] _ hl (by omega) (by omega) rfl (by omega) ?cells (H.out.below ((Below.refl _ w).alloc (Nat.le_refl _) _))).mono ?_
  case cells => exact lit_ints w [0, 1, 2, 3, 4, 5, 6, -1] _
  rintro e w1 ⟨z, hz, rfl, hC, hG⟩
  have HC : Hd (Cursor w1 g ao len cap bs) := ⟨hC⟩
  have HG : Hd (w.grownBy w1 (some g)) := ⟨grown_of_alloc hG⟩
  clear hC hG hz
  go_wp2_with fail
  go_ret
  exact ⟨z, rfl, HC.out, HG.out⟩

set_option maxHeartbeats 400000 in
theorem drawCsName_any (ao : Option Addr) (len cap : Nat) (bs : List UInt8) (w : World) (hl : len ≤ 1073741824) (hr : Reads w ao len bs) :
    Calls Tryd.prog 16 #[.slice ao len cap] w (DrawnInt w) := by
  have H : Hd (Reads w ao len bs) := ⟨hr⟩
  clear hr
  go_enter Tryd.func16, Tryd.ntmps16
  go_wp2_with fail
  refine (l1New_any ao len cap bs _ hl H.out).mono ?_
  rintro e w1 ⟨rfl, hC1, hB1⟩
  have C1 : Hd (Cursor w1 w.heap.size ao len cap bs) := ⟨hC1⟩
  have B1 : Hd (Below w.heap.size w w1) := ⟨hB1⟩
  clear hC1 hB1
  go_wp2_with fail
  refine (l3Any_any w.heap.size ao len cap bs _ hl C1.out).mono ?_
  rintro e w2 ⟨z, rfl, hC2, hG2⟩
  have B2 : Hd (Below w.heap.size w w2) := ⟨below_grows B1.out hG2 B1.out.size (Nat.le_refl _)⟩
  clear hC2 hG2 C1 B1
  go_wp2_with fail
  go_ret
  exact ⟨z, rfl, B2.out⟩

set_option maxHeartbeats 400000 in
theorem drawCsOf_any (ao : Option Addr) (len cap : Nat) (bs : List UInt8) (w : World) (hl : len ≤ 1073741824) (hr : Reads w ao len bs) :
    Calls Tryd.prog 17 #[.slice ao len cap] w (DrawnText w) := by
  have H : Hd (Reads w ao len bs) := ⟨hr⟩
  clear hr
  go_enter Tryd.func17, Tryd.ntmps17
  go_wp2_with fail
  refine (l1New_any ao len cap bs _ hl H.out).mono ?_
  rintro e w1 ⟨rfl, hC1, hB1⟩
  have C1 : Hd (Cursor w1 w.heap.size ao len cap bs) := ⟨hC1⟩
  have B1 : Hd (Below w.heap.size w w1) := ⟨hB1⟩
  have hlt := hC1.lt
  clear hC1 hB1
  go_wp2_with fail
  refine (l1Str_any w.heap.size w1.heap.size 8 8 ao len cap bs (names ++ [⟨#[]⟩, ⟨#[120]⟩]) _ hl (by omega) (by omega) rfl (by omega) ?cells (C1.out.below ((Below.refl _ w1).alloc (Nat.le_refl _) _))).mono ?_
  case cells => exact lit_strs w1 (names ++ [⟨#[]⟩, ⟨#[120]⟩]) _
  rintro e w2 ⟨z, hz, rfl, hC2, hG2⟩
  have B2 : Hd (Below w.heap.size w w2) := ⟨below_grows B1.out (grown_of_alloc hG2) B1.out.size (Nat.le_refl _)⟩
  clear hC2 hG2 C1 B1 hz
  go_wp2_with fail
  go_ret
  exact ⟨z, rfl, B2.out⟩

set_option maxHeartbeats 400000 in
theorem drawSignByte_any (ao : Option Addr) (len cap : Nat) (bs : List UInt8) (w : World) (hl : len ≤ 1073741824) (hr : Reads w ao len bs) :
    Calls Tryd.prog 12 #[.slice ao len cap] w (DrawnTwo w) := by
  have H : Hd (Reads w ao len bs) := ⟨hr⟩
  clear hr
  go_enter Tryd.func12, Tryd.ntmps12
  go_wp2_with fail
  refine (l1New_any ao len cap bs _ hl H.out).mono ?_
  rintro e w1 ⟨rfl, hC1, hB1⟩
  have C1 : Hd (Cursor w1 w.heap.size ao len cap bs) := ⟨hC1⟩
  have B1 : Hd (Below w.heap.size w w1) := ⟨hB1⟩
  clear hC1 hB1
  go_wp2_with fail
  refine (l3Any_any w.heap.size ao len cap bs _ hl C1.out).mono ?_
  rintro e w2 ⟨y, rfl, hC2, hG2⟩
  have C2 : Hd (Cursor w2 w.heap.size ao len cap bs) := ⟨hC2⟩
  have B2 : Hd (Below w.heap.size w w2) := ⟨below_grows B1.out hG2 B1.out.size (Nat.le_refl _)⟩
  clear hC2 hG2 C1 B1
  go_wp2_with fail
  refine (l2Any_any w.heap.size ao len cap bs _ hl C2.out).mono ?_
  rintro e w3 ⟨z, rfl, hC3, hG3⟩
  have B3 : Hd (Below w.heap.size w w3) := ⟨below_grows B2.out hG3 B2.out.size (Nat.le_refl _)⟩
  clear hC3 hG3 C2 B2
  go_wp2_with fail
  go_ret2
  exact ⟨y, z, rfl, B3.out⟩

set_option maxHeartbeats 400000 in
theorem drawByteSign_any (ao : Option Addr) (len cap : Nat) (bs : List UInt8) (w : World) (hl : len ≤ 1073741824) (hr : Reads w ao len bs) :
    Calls Tryd.prog 9 #[.slice ao len cap] w (DrawnTwo w) := by
  have H : Hd (Reads w ao len bs) := ⟨hr⟩
  clear hr
  go_enter Tryd.func9, Tryd.ntmps9
  go_wp2_with fail
  refine (l1New_any ao len cap bs _ hl H.out).mono ?_
  rintro e w1 ⟨rfl, hC1, hB1⟩
  have C1 : Hd (Cursor w1 w.heap.size ao len cap bs) := ⟨hC1⟩
  have B1 : Hd (Below w.heap.size w w1) := ⟨hB1⟩
  clear hC1 hB1
  go_wp2_with fail
  refine (l3Any_any w.heap.size ao len cap bs _ hl C1.out).mono ?_
  rintro e w2 ⟨y, rfl, hC2, hG2⟩
  have C2 : Hd (Cursor w2 w.heap.size ao len cap bs) := ⟨hC2⟩
  have B2 : Hd (Below w.heap.size w w2) := ⟨below_grows B1.out hG2 B1.out.size (Nat.le_refl _)⟩
  clear hC2 hG2 C1 B1
  go_wp2_with fail
  refine (l1Below_any w.heap.size ao len cap bs 256 _ hl (by omega) (by omega) C2.out).mono ?_
  rintro e w3 ⟨x, hx, rfl, hC3, hG3⟩
  have C3 : Hd (Cursor w3 w.heap.size ao len cap bs) := ⟨hC3⟩
  have B3 : Hd (Below w.heap.size w w3) := ⟨below_grows B2.out hG3 B2.out.size (Nat.le_refl _)⟩
  have hlt := hC3.lt
  clear hC3 hG3 C2 B2 hx
  go_wp2_with fail
  refine (l1Int_any w.heap.size w3.heap.size 16 16 ao len cap bs [0, 65, 127, 128, 129, 160, 163, 164, 179, 192, 223, 224, 255, 256, -1, (x : Int)] _ hl (by omega) (by omega) rfl (by omega) ?cells (C3.out.below ((Below.refl _ w3).alloc (Nat.le_refl _) _))).mono ?_
  case cells => exact lit_ints w3 [0, 65, 127, 128, 129, 160, 163, 164, 179, 192, 223, 224, 255, 256, -1, (x : Int)] _
  rintro e w4 ⟨z, hz, rfl, hC4, hG4⟩
  have B4 : Hd (Below w.heap.size w w4) := ⟨below_grows B3.out (grown_of_alloc hG4) B3.out.size (Nat.le_refl _)⟩
  clear hC4 hG4 C3 B3 hz
  go_wp2_with fail
  go_ret2
  exact ⟨y, z, rfl, B4.out⟩

end Go.Proofs.YtmkhnbadgmegcaaDoor
