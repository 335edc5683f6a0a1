/- Contracts of what the law of pairs draws. -/
import Derived.Test.YtbkmpijodgmloaaDoorBend
import Derived.Test.YtbkmpijodgmloaaDoorPutEuc
namespace Go.Proofs.YtbkmpijodgmloaaDoor
open Go.RowKit

set_option maxHeartbeats 400000 in
theorem drawPairSign_any (ao : Option Addr) (len cap : Nat) (bs : List UInt8) (w : World) (hl : len ≤ 1073741824) (hr : Reads w ao len bs) :
    Calls Tryd.prog 9 #[.slice ao len cap] w (DrawnTwo w) := by
  have H : Hd (Reads w ao len bs) := ⟨hr⟩
  clear hr
  go_enter Tryd.func9, Tryd.ntmps9
  go_wp2_with fail
  refine (l1New_any ao len cap bs _ hl H.out).mono ?_
  rintro e w1 ⟨rfl, hC1, hB1⟩
  have C1 : Hd (Cursor w1 w.heap.size ao len cap bs) := ⟨hC1⟩
  have B1 : Hd (Below w.heap.size w w1) := ⟨hB1⟩
  have hlt := hC1.lt
  clear hC1 hB1
  go_wp2_with fail
  refine (l1Int_any w.heap.size w1.heap.size 5 5 ao len cap bs [164, 165, 163, 166, 65] _ hl (by omega) (by omega) rfl (by omega) ?cells (C1.out.below ((Below.refl _ w1).alloc (Nat.le_refl _) _))).mono ?_
  case cells => exact lit_ints w1 [164, 165, 163, 166, 65] _
  rintro e w2 ⟨y, hy, rfl, hC2, hG2⟩
  have C2 : Hd (Cursor w2 w.heap.size ao len cap bs) := ⟨hC2⟩
  have B2 : Hd (Below w.heap.size w w2) := ⟨below_grows B1.out (grown_of_alloc hG2) B1.out.size (Nat.le_refl _)⟩
  have HY : Hd (y ≤ 9223372036854775807) := ⟨(by decide : ∀ z ∈ ([164, 165, 163, 166, 65] : List Int), z ≤ 9223372036854775807) y hy⟩
  have hlt2 := hC2.lt
  clear hC2 hG2 C1 B1 hy
  go_wp2_with fail
  refine (l1Int_any w.heap.size w2.heap.size 8 8 ao len cap bs [161, 160, 243, 244, 246, 247, 192, 65] _ hl (by omega) (by omega) rfl (by omega) ?cells2 (C2.out.below ((Below.refl _ w2).alloc (Nat.le_refl _) _))).mono ?_
  case cells2 => exact lit_ints w2 [161, 160, 243, 244, 246, 247, 192, 65] _
  rintro e w3 ⟨z, hz, rfl, hC3, hG3⟩
  have B3 : Hd (Below w.heap.size w w3) := ⟨below_grows B2.out (grown_of_alloc hG3) B2.out.size (Nat.le_refl _)⟩
  have HZ : Hd (z ≤ 9223372036854775807) := ⟨(by decide : ∀ z ∈ ([161, 160, 243, 244, 246, 247, 192, 65] : List Int), z ≤ 9223372036854775807) z hz⟩
  clear hC3 hG3 C2 B2 hz
  go_wp2_with fail
  go_ret2
  exact ⟨y, z, rfl, HY.out, HZ.out, B3.out⟩

set_option maxHeartbeats 400000 in
theorem drawSignPair_any (ao : Option Addr) (len cap : Nat) (bs : List UInt8) (w : World) (hl : len ≤ 1073741824) (hr : Reads w ao len bs) :
    Calls Tryd.prog 12 #[.slice ao len cap] w (DrawnInt w) := by
  have H : Hd (Reads w ao len bs) := ⟨hr⟩
  clear hr
  go_enter Tryd.func12, Tryd.ntmps12
  go_wp2_with fail
  refine (l1New_any ao len cap bs _ hl H.out).mono ?_
  rintro e w1 ⟨rfl, hC1, hB1⟩
  have C1 : Hd (Cursor w1 w.heap.size ao len cap bs) := ⟨hC1⟩
  have B1 : Hd (Below w.heap.size w w1) := ⟨hB1⟩
  have hlt := hC1.lt
  clear hC1 hB1
  go_wp2_with fail
  refine (l1Int_any w.heap.size w1.heap.size 11 11 ao len cap bs [12353, 12352, 12435, 12436, 12449, 12448, 12534, 12535, 12354, 65, -1] _ hl (by omega) (by omega) rfl (by omega) ?cells (C1.out.below ((Below.refl _ w1).alloc (Nat.le_refl _) _))).mono ?_
  case cells => exact lit_ints w1 [12353, 12352, 12435, 12436, 12449, 12448, 12534, 12535, 12354, 65, -1] _
  rintro e w2 ⟨z, hz, rfl, hC2, hG2⟩
  have B2 : Hd (Below w.heap.size w w2) := ⟨below_grows B1.out (grown_of_alloc hG2) B1.out.size (Nat.le_refl _)⟩
  have HZ : Hd (z ≤ 9223372036854775807) := ⟨(by decide : ∀ z ∈ ([12353, 12352, 12435, 12436, 12449, 12448, 12534, 12535, 12354, 65, -1] : List Int), z ≤ 9223372036854775807) z hz⟩
  clear hC2 hG2 C1 B1 hz
  go_wp2_with fail
  go_ret
  exact ⟨z, rfl, HZ.out, B2.out⟩

/-- Where the loop of l4Euc stands. -/
structure EucLoop (w : World) (g : Nat) (ao : Option Addr) (len cap : Nat) (bs : List UInt8) (j q c n : Nat) (wr : World) : Prop where
  out : ∃ ds : List UInt8, ds.length = n ∧ n + 2 * j ≤ 10 ∧ w.heap.size ≤ q ∧ Own wr q c ds ∧ Cursor wr g ao len cap bs ∧ w.grownBy wr (some g)

set_option maxHeartbeats 1000000 in
theorem l4Euc_any (g : Nat) (ao : Option Addr) (len cap : Nat) (bs : List UInt8) (w : World) (hl : len ≤ 1073741824) (h : Cursor w g ao len cap bs) :
    Calls Tryd.prog 29 #[.pointer (some ⟨g, 0, none⟩)] w (BytesDrawn w g ao len cap bs 10) := by
  have H : Hd (Cursor w g ao len cap bs) := ⟨h⟩
  have hlt := h.lt
  clear h
  go_enter Tryd.func29, Tryd.ntmps29
  go_wp2_with fail
  refine (l1Below_any g ao len cap bs 6 _ hl (by omega) (by omega) (H.out.below ((Below.refl _ w).alloc (Nat.le_refl _) _))).mono ?_
  rintro e w1 ⟨x, hx, rfl, hC1, hG1⟩
  have T1 : Hd (EucLoop w g ao len cap bs x w.heap.size 0 0 w1) := ⟨by
    have hO : Own (w.alloc (.cells #[] 5)) w.heap.size 0 [] := ⟨#[], heap_alloc_new w _, by simp, Nat.zero_le _, rfl, by simp⟩
    exact ⟨[], rfl, by omega, Nat.le_refl _, hO.grown hG1 (by omega), hC1, grown_of_alloc hG1⟩⟩
  clear hC1 hG1 H
  go_wp2_with fail
  go_loopw [3, 4] (fun v i wr => ∃ (j q c n : Nat), i = .int .i64 j ∧ v = .slice (some ⟨q, 0, none⟩) n c ∧ Hd (EucLoop w g ao len cap bs j q c n wr)) (fun _ i _ => (intOf i).toNat)
  case atStart => exact ⟨x, w.heap.size, 0, 0, rfl, rfl, T1⟩
  case round =>
    clear T1
    obtain ⟨j, q, c, n, rfl, rfl, T⟩ := hrel
    have hj : n + 2 * j ≤ 10 := by obtain ⟨ds, _, h2, _⟩ := T.out; exact h2
    by_cases h0 : 0 < j
    · have hjI : (0 : Int) < (j : Int) := by omega
      obtain ⟨ds, d1, d2, d3, d4, d5, d6⟩ := T.out
      have C1 : Hd (Cursor wr g ao len cap bs) := ⟨d5⟩
      have hgq : Hd (g ≠ wr.heap.size) := ⟨by have := d5.lt; omega⟩
      clear d1 d2 d3 d4 d5 d6 ds
      go_wp2_with fail
      refine (l1Int_any g wr.heap.size 7 7 ao len cap bs [97, 98, 12353, 12435, 12449, 12534, 12354] _ hl (by omega) (by omega) rfl (by have := hgq.out; omega) ?cells (C1.out.below ((Below.refl _ wr).alloc (Nat.le_refl _) _))).mono ?_
      case cells => exact lit_ints wr [97, 98, 12353, 12435, 12449, 12534, 12354] _
      rintro e w2 ⟨z, hz, rfl, hC2, hG2'⟩
      have hG2 := grown_of_alloc hG2'
      obtain ⟨ds, d1, d2, d3, d4, d5, d6⟩ := T.out
      have O2 : Hd (Own w2 q c ds) := ⟨d4.grown hG2 (by omega)⟩
      have C2 : Hd (Cursor w2 g ao len cap bs) := ⟨hC2⟩
      have G2 : Hd (w.grownBy w2 (some g)) := ⟨grown_next d6 hG2⟩
      have D1 : Hd (ds.length = n) := ⟨d1⟩
      have D2 : Hd (n + 2 * j ≤ 10) := ⟨d2⟩
      clear hC2 hG2 hG2' d1 d2 d3 d4 d5 d6 T C1 hz hgq
      go_wp2_with fail
      refine (specPutEuc_any q 0 n c ds z _ D1.out (O2.out.cell D1.out) O2.out.lt (by omega)).mono ?_
      rintro e w3 ⟨q3, c3, rfl, hq3, hO3, hB3⟩
      have T3 : Hd (EucLoop w g ao len cap bs (j - 1) q3 c3 (ds ++ eucB z).length w3) := ⟨⟨ds ++ eucB z, rfl, by have := eucB_len z; have := D1.out; have := D2.out; rw [List.length_append]; omega, by have := G2.out.size; omega, hO3, C2.out.below hB3, grown_next G2.out (grown_below hB3 _)⟩⟩
      generalize (ds ++ eucB z).length = n3 at *
      generalize eucOk z = ok3 at *
      clear hq3 hO3 hB3 O2 C2 G2 D1 D2
      go_wp2_with fail
      go_roundw
      case rel => exact ⟨j - 1, q3, c3, n3, by go_num, rfl, T3⟩
      case measure => simp [intOf]; omega
    · have hjI : ¬ (0 : Int) < (j : Int) := by omega
      obtain ⟨ds, d1, d2, d3, d4, d5, d6⟩ := T.out
      have O2 : Hd (Own wr q c ds) := ⟨d4⟩
      have C2 : Hd (Cursor wr g ao len cap bs) := ⟨d5⟩
      have G2 : Hd (w.grownBy wr (some g)) := ⟨d6⟩
      have D1 : Hd (ds.length = n) := ⟨d1⟩
      have D2 : Hd (n ≤ 10) := ⟨by omega⟩
      have D3 : Hd (w.heap.size ≤ q) := ⟨d3⟩
      clear d1 d2 d3 d4 d5 d6 T
      go_wp2_with fail
      go_ret
      exact ⟨q, n, c, ds, rfl, D1.out, D2.out, D3.out, O2.out, C2.out, G2.out⟩

set_option maxHeartbeats 400000 in
theorem drawEucSign_any (ao : Option Addr) (len cap : Nat) (bs : List UInt8) (w : World) (hl : len ≤ 1073741824) (hr : Reads w ao len bs) :
    Calls Tryd.prog 15 #[.slice ao len cap] w (DrawnBytesInt w 10) := by
  have H : Hd (Reads w ao len bs) := ⟨hr⟩
  clear hr
  go_enter Tryd.func15, Tryd.ntmps15
  go_wp2_with fail
  refine (l1New_any ao len cap bs _ hl H.out).mono ?_
  rintro e w1 ⟨rfl, hC1, hB1⟩
  have C1 : Hd (Cursor w1 w.heap.size ao len cap bs) := ⟨hC1⟩
  have B1 : Hd (Below w.heap.size w w1) := ⟨hB1⟩
  clear hC1 hB1
  go_wp2_with fail
  refine (l4Euc_any w.heap.size ao len cap bs _ hl C1.out).mono ?_
  rintro e w2 ⟨q, m, c, xs, rfl, hxs, hm, hq, hO, hC2, hG2⟩
  have C2 : Hd (Cursor w2 w.heap.size ao len cap bs) := ⟨hC2⟩
  have B2 : Hd (Below w.heap.size w w2) := ⟨below_grows B1.out hG2 B1.out.size (Nat.le_refl _)⟩
  have O2 : Hd (Own w2 q c xs) := ⟨hO⟩
  have D2 : Hd (xs.length = m) := ⟨hxs⟩
  clear hC2 hG2 C1 B1 hO hxs hq
  go_wp2_with fail
  refine (l1Bend_any w.heap.size ao len cap bs q m c xs _ hl (by omega) D2.out (O2.out.cell D2.out) O2.out.lt C2.out).mono ?_
  rintro e w3 ⟨q3, m3, c3, ds, rfl, hds, hm3, hq3, hO3, hC3, hG3⟩
  have C3 : Hd (Cursor w3 w.heap.size ao len cap bs) := ⟨hC3⟩
  have B3 : Hd (Below w.heap.size w w3) := ⟨below_grows B2.out hG3 B2.out.size (Nat.le_refl _)⟩
  have O3 : Hd (Own w3 q3 c3 ds) := ⟨hO3⟩
  have D3 : Hd (ds.length = m3) := ⟨hds⟩
  have q3' : Hd (w.heap.size < q3) := ⟨by have := C2.out.lt; omega⟩
  have hm10 : m3 ≤ 10 := by omega
  clear hC3 hG3 C2 B2 hO3 hds hq3 hm3 O2 D2
  go_wp2_with fail
  refine (l1At_any w.heap.size ao len cap bs _ m3 c3 _ hl (by omega) C3.out).mono ?_
  rintro e w4 ⟨z, rfl, hz, hC4, hG4⟩
  have B4 : Hd (Below w.heap.size w w4) := ⟨below_grows B3.out hG4 B3.out.size (Nat.le_refl _)⟩
  have O4 : Hd (Own w4 q3 c3 ds) := ⟨O3.out.grown hG4 (by have := q3'.out; omega)⟩
  have HZ : Hd (z ≤ 9223372036854775807) := ⟨hz⟩
  have HM : Hd (m3 ≤ 10) := ⟨hm10⟩
  clear hC4 hG4 C3 B3 O3 hz hm10
  go_wp2_with fail
  go_ret2
  exact ⟨q3, m3, c3, ds, z, rfl, D3.out, HM.out, HZ.out, Nat.le_of_lt q3'.out, O4.out, B4.out⟩

set_option maxHeartbeats 400000 in
theorem drawPutEuc_any (ao : Option Addr) (len cap : Nat) (bs : List UInt8) (w : World) (hl : len ≤ 1073741824) (hr : Reads w ao len bs) :
    Calls Tryd.prog 18 #[.slice ao len cap] w (DrawnBytesInt w 2) := by
  have H : Hd (Reads w ao len bs) := ⟨hr⟩
  clear hr
  go_enter Tryd.func18, Tryd.ntmps18
  go_wp2_with fail
  refine (l1New_any ao len cap bs _ hl H.out).mono ?_
  rintro e w1 ⟨rfl, hC1, hB1⟩
  have C1 : Hd (Cursor w1 w.heap.size ao len cap bs) := ⟨hC1⟩
  have B1 : Hd (Below w.heap.size w w1) := ⟨hB1⟩
  clear hC1 hB1
  go_wp2_with fail
  refine (l1Below_any w.heap.size ao len cap bs 3 _ hl (by omega) (by omega) C1.out).mono ?_
  rintro e w2 ⟨m, hm, rfl, hC2, hG2⟩
  have C2 : Hd (Cursor w2 w.heap.size ao len cap bs) := ⟨hC2⟩
  have B2 : Hd (Below w.heap.size w w2) := ⟨below_grows B1.out hG2 B1.out.size (Nat.le_refl _)⟩
  clear hC2 hG2 C1 B1
  go_wp2_with fail
  refine (l1Bytes_any w.heap.size ao len cap bs m _ hl (by omega) C2.out).mono ?_
  rintro e w3 ⟨q, c, ds, rfl, hds, hq, hO, hC3, hG3⟩
  have C3 : Hd (Cursor w3 w.heap.size ao len cap bs) := ⟨hC3⟩
  have B3 : Hd (Below w.heap.size w w3) := ⟨below_grows B2.out hG3 B2.out.size (Nat.le_refl _)⟩
  have O3 : Hd (Own w3 q c ds) := ⟨hO⟩
  have D3 : Hd (ds.length = m) := ⟨hds⟩
  have q3 : Hd (w.heap.size < q) := ⟨by have := C2.out.lt; omega⟩
  clear hC3 hG3 hO hds hq C2 B2
  go_wp2_with fail
  refine (l1Once_any w.heap.size ao len cap bs 2 _ hl (by omega) (by omega) C3.out).mono ?_
  rintro e w4 ⟨b, rfl, hC4, hG4⟩
  have C4 : Hd (Cursor w4 w.heap.size ao len cap bs) := ⟨hC4⟩
  have B4 : Hd (Below w.heap.size w w4) := ⟨below_grows B3.out hG4 B3.out.size (Nat.le_refl _)⟩
  have O4 : Hd (Own w4 q c ds) := ⟨O3.out.grown hG4 (by have := q3.out; omega)⟩
  have HM : Hd (m ≤ 2) := ⟨by omega⟩
  clear hC4 hG4 C3 B3 O3
  cases b with
  | true =>
    go_wp2_with fail
    refine (drawSignPair_any ao len cap bs _ hl (H.out.below rfl B4.out)).mono ?_
    rintro e w5 ⟨z, rfl, hz, hB5⟩
    have B5 : Hd (Below w.heap.size w w5) := ⟨Below.next B4.out hB5⟩
    have O5 : Hd (Own w5 q c ds) := ⟨O4.out.below hB5⟩
    have HZ : Hd (z ≤ 9223372036854775807) := ⟨hz⟩
    clear hB5 B4 O4 hz C4 H
    go_wp2_with fail
    go_ret2
    exact ⟨q, m, c, ds, z, rfl, D3.out, HM.out, HZ.out, Nat.le_of_lt q3.out, O5.out, B5.out⟩
  | false =>
    go_wp2_with fail
    refine (l2Any_any w.heap.size ao len cap bs _ hl C4.out).mono ?_
    rintro e w5 ⟨z, rfl, hz, hC5, hG5⟩
    have B5 : Hd (Below w.heap.size w w5) := ⟨below_grows B4.out hG5 B4.out.size (Nat.le_refl _)⟩
    have O5 : Hd (Own w5 q c ds) := ⟨O4.out.grown hG5 (by have := q3.out; omega)⟩
    have HZ : Hd (z ≤ 9223372036854775807) := ⟨hz⟩
    clear hC5 hG5 B4 O4 hz C4 H
    go_wp2_with fail
    go_ret2
    exact ⟨q, m, c, ds, z, rfl, D3.out, HM.out, HZ.out, Nat.le_of_lt q3.out, O5.out, B5.out⟩

end Go.Proofs.YtbkmpijodgmloaaDoor
