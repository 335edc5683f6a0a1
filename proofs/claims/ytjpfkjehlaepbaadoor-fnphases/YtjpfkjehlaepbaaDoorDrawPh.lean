/- Contracts of what is drawn of a code for the laws on phases: a phase, two of them, a name. -/
import Derived.Test.YtjpfkjehlaepbaaDoorCommon
import Derived.Test.YtjpfkjehlaepbaaDoorDraw
import Derived.Test.YtjpfkjehlaepbaaDoorPhaseM
namespace Go.Proofs.YtjpfkjehlaepbaaDoor
set_option maxRecDepth 4000
open Go.RowKit

/-- A number; two numbers; a text. -/
structure DrawnInt (w : World) (e : Ending) (w' : World) : Prop where
  out : ∃ z : Int, e = .returned (.int .i64 z) ∧ Below w.heap.size w w'
structure DrawnTwo (w : World) (e : Ending) (w' : World) : Prop where
  out : ∃ y z : Int, e = .returned (.tuple #[.int .i64 y, .int .i64 z]) ∧ Below w.heap.size w w'
structure DrawnText (w : World) (e : Ending) (w' : World) : Prop where
  out : ∃ s : ByteArray, e = .returned (.string s) ∧ Below w.heap.size w w'

set_option maxHeartbeats 400000 in
theorem l14Draw_any (g : Nat) (ao : Option Addr) (len cap : Nat) (bs : List UInt8) (w : World) (hl : len ≤ 1073741824) (h : Cursor w g ao len cap bs) :
    Calls Tryd.prog 27 #[.pointer (some ⟨g, 0, none⟩)] w fun e w' => ∃ z : Int, e = .returned (.int .i64 z) ∧ Cursor w' g ao len cap bs ∧ w.grownBy w' (some g) := by
  have H : Hd (Cursor w g ao len cap bs) := ⟨h⟩
  clear h
  go_enter Tryd.func27, Tryd.ntmps27
  go_wp2_with fail
  refine (l1Below_any g ao len cap bs 10 _ hl (by omega) (by omega) H.out).mono ?_
  rintro e w1 ⟨x, hx, rfl, hC, hG⟩
  have HC : Hd (Cursor w1 g ao len cap bs) := ⟨hC⟩
  have HG : Hd (w.grownBy w1 (some g)) := ⟨hG⟩
  clear hC hG
  go_wp2_with fail
  go_ret
  exact ⟨_, rfl, HC.out, HG.out⟩

set_option maxHeartbeats 400000 in
theorem drawNextOk_any (ao : Option Addr) (len cap : Nat) (bs : List UInt8) (w : World) (hl : len ≤ 1073741824) (hr : Reads w ao len bs) :
    Calls Tryd.prog 8 #[.slice ao len cap] w (DrawnTwo w) := by
  have H : Hd (Reads w ao len bs) := ⟨hr⟩
  clear hr
  go_enter Tryd.func8, Tryd.ntmps8
  go_wp2_with fail
  refine (l1New_any ao len cap bs _ hl H.out).mono ?_
  rintro e w1 ⟨rfl, hC1, hB1⟩
  have C1 : Hd (Cursor w1 w.heap.size ao len cap bs) := ⟨hC1⟩
  have B1 : Hd (Below w.heap.size w w1) := ⟨hB1⟩
  clear hC1 hB1
  go_wp2_with fail
  refine (l14Draw_any w.heap.size ao len cap bs _ hl C1.out).mono ?_
  rintro e w2 ⟨y, rfl, hC2, hG2⟩
  have C2 : Hd (Cursor w2 w.heap.size ao len cap bs) := ⟨hC2⟩
  have B2 : Hd (Below w.heap.size w w2) := ⟨below_grows B1.out hG2 B1.out.size (Nat.le_refl _)⟩
  clear hC2 hG2 C1 B1
  go_wp2_with fail
  refine (l14Draw_any w.heap.size ao len cap bs _ hl C2.out).mono ?_
  rintro e w3 ⟨z, rfl, hC3, hG3⟩
  have B3 : Hd (Below w.heap.size w w3) := ⟨below_grows B2.out hG3 B2.out.size (Nat.le_refl _)⟩
  clear hC3 hG3 C2 B2
  go_wp2_with fail
  go_ret2
  exact ⟨y, z, rfl, B3.out⟩

set_option maxHeartbeats 400000 in
theorem drawReaches_any (ao : Option Addr) (len cap : Nat) (bs : List UInt8) (w : World) (hl : len ≤ 1073741824) (hr : Reads w ao len bs) :
    Calls Tryd.prog 9 #[.slice ao len cap] w (DrawnTwo w) := by
  have H : Hd (Reads w ao len bs) := ⟨hr⟩
  clear hr
  go_enter Tryd.func9, Tryd.ntmps9
  go_wp2_with fail
  refine (drawNextOk_any ao len cap bs _ hl H.out).mono ?_
  rintro e w1 ⟨y, z, rfl, hB1⟩
  have B1 : Hd (Below w.heap.size w w1) := ⟨hB1⟩
  clear hB1
  go_wp2_with fail
  go_ret2
  exact ⟨y, z, rfl, B1.out⟩

set_option maxHeartbeats 400000 in
theorem drawFinal_any (ao : Option Addr) (len cap : Nat) (bs : List UInt8) (w : World) (hl : len ≤ 1073741824) (hr : Reads w ao len bs) :
    Calls Tryd.prog 10 #[.slice ao len cap] w (DrawnInt w) := by
  have H : Hd (Reads w ao len bs) := ⟨hr⟩
  clear hr
  go_enter Tryd.func10, Tryd.ntmps10
  go_wp2_with fail
  refine (l1New_any ao len cap bs _ hl H.out).mono ?_
  rintro e w1 ⟨rfl, hC1, hB1⟩
  have C1 : Hd (Cursor w1 w.heap.size ao len cap bs) := ⟨hC1⟩
  have B1 : Hd (Below w.heap.size w w1) := ⟨hB1⟩
  clear hC1 hB1
  go_wp2_with fail
  refine (l14Draw_any w.heap.size ao len cap bs _ hl C1.out).mono ?_
  rintro e w2 ⟨z, rfl, hC2, hG2⟩
  have B2 : Hd (Below w.heap.size w w2) := ⟨below_grows B1.out hG2 B1.out.size (Nat.le_refl _)⟩
  clear hC2 hG2 C1 B1
  go_wp2_with fail
  go_ret
  exact ⟨z, rfl, B2.out⟩

set_option maxHeartbeats 400000 in
theorem drawWalks_any (ao : Option Addr) (len cap : Nat) (bs : List UInt8) (w : World) (hl : len ≤ 1073741824) (hr : Reads w ao len bs) :
    Calls Tryd.prog 11 #[.slice ao len cap] w (DrawnInt w) := by
  have H : Hd (Reads w ao len bs) := ⟨hr⟩
  clear hr
  go_enter Tryd.func11, Tryd.ntmps11
  go_wp2_with fail
  refine (l1New_any ao len cap bs _ hl H.out).mono ?_
  rintro e w1 ⟨rfl, hC1, hB1⟩
  have C1 : Hd (Cursor w1 w.heap.size ao len cap bs) := ⟨hC1⟩
  have B1 : Hd (Below w.heap.size w w1) := ⟨hB1⟩
  clear hC1 hB1
  go_wp2_with fail
  refine (l14Draw_any w.heap.size ao len cap bs _ hl C1.out).mono ?_
  rintro e w2 ⟨z, rfl, hC2, hG2⟩
  have B2 : Hd (Below w.heap.size w w2) := ⟨below_grows B1.out hG2 B1.out.size (Nat.le_refl _)⟩
  clear hC2 hG2 C1 B1
  go_wp2_with fail
  go_ret
  exact ⟨z, rfl, B2.out⟩

set_option maxHeartbeats 400000 in
theorem drawPhaseName_any (ao : Option Addr) (len cap : Nat) (bs : List UInt8) (w : World) (hl : len ≤ 1073741824) (hr : Reads w ao len bs) :
    Calls Tryd.prog 12 #[.slice ao len cap] w (DrawnInt w) := by
  have H : Hd (Reads w ao len bs) := ⟨hr⟩
  clear hr
  go_enter Tryd.func12, Tryd.ntmps12
  go_wp2_with fail
  refine (l1New_any ao len cap bs _ hl H.out).mono ?_
  rintro e w1 ⟨rfl, hC1, hB1⟩
  have C1 : Hd (Cursor w1 w.heap.size ao len cap bs) := ⟨hC1⟩
  have B1 : Hd (Below w.heap.size w w1) := ⟨hB1⟩
  clear hC1 hB1
  go_wp2_with fail
  refine (l14Draw_any w.heap.size ao len cap bs _ hl C1.out).mono ?_
  rintro e w2 ⟨z, rfl, hC2, hG2⟩
  have B2 : Hd (Below w.heap.size w w2) := ⟨below_grows B1.out hG2 B1.out.size (Nat.le_refl _)⟩
  clear hC2 hG2 C1 B1
  go_wp2_with fail
  go_ret
  exact ⟨z, rfl, B2.out⟩

set_option maxHeartbeats 400000 in
theorem drawPhaseOf_any (ao : Option Addr) (len cap : Nat) (bs : List UInt8) (w : World) (hl : len ≤ 1073741824) (hr : Reads w ao len bs) :
    Calls Tryd.prog 13 #[.slice ao len cap] w (DrawnText w) := by
  have H : Hd (Reads w ao len bs) := ⟨hr⟩
  clear hr
  go_enter Tryd.func13, Tryd.ntmps13
  go_wp2_with fail
  refine (l1New_any ao len cap bs _ hl H.out).mono ?_
  rintro e w1 ⟨rfl, hC1, hB1⟩
  have C1 : Hd (Cursor w1 w.heap.size ao len cap bs) := ⟨hC1⟩
  have B1 : Hd (Below w.heap.size w w1) := ⟨hB1⟩
  have hlt := hC1.lt
  clear hC1 hB1
  go_wp2_with fail
  refine (l1Str_any w.heap.size w1.heap.size 10 10 ao len cap bs (phNames ++ [⟨#[]⟩, ⟨#[120]⟩]) _ hl (by omega) (by omega) rfl (by omega) ?cells (C1.out.below ((Below.refl _ w1).alloc (Nat.le_refl _) _))).mono ?_
  case cells => exact lit_strs w1 (phNames ++ [⟨#[]⟩, ⟨#[120]⟩]) _
  rintro e w2 ⟨z, hz, rfl, hC2, hG2⟩
  have B2 : Hd (Below w.heap.size w w2) := ⟨below_grows B1.out (grown_of_alloc hG2) B1.out.size (Nat.le_refl _)⟩
  clear hC2 hG2 C1 B1 hz
  go_wp2_with fail
  go_ret
  exact ⟨z, rfl, B2.out⟩

end Go.Proofs.YtjpfkjehlaepbaaDoor
