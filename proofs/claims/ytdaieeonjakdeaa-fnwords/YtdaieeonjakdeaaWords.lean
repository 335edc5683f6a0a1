/- Contracts of what FnWords draws. -/
import Derived.Test.YtdaieeonjakdeaaDraw
import Derived.Test.YtdaieeonjakdeaaName
import Derived.Test.YtdaieeonjakdeaaGetText
import Derived.Test.YtdaieeonjakdeaaPutText
namespace Go.Proofs.Ytdaieeonjakdeaa
open Go.RowKit

theorem lit_ints (w : World) (zs : List Int) (T : TypeId) : ∀ j, j < zs.length → (w.alloc (.cells (zs.map (Value.int .i64)).toArray T)).cell? ⟨w.heap.size, j, none⟩ = some (.int .i64 (zs.getD j 0)) := by
  intro j hj
  rw [cell_of_row (w.alloc _) _ j _ _ (0, 0) (heap_alloc_new w _)]
  simp [List.getD, List.getElem?_eq_getElem hj]
theorem lit_strs (w : World) (zs : List ByteArray) (T : TypeId) : ∀ j, j < zs.length → (w.alloc (.cells (zs.map Value.string).toArray T)).cell? ⟨w.heap.size, j, none⟩ = some (.string (zs.getD j ⟨#[]⟩)) := by
  intro j hj
  rw [cell_of_row (w.alloc _) _ j _ _ (0, 0) (heap_alloc_new w _)]
  simp [List.getD, List.getElem?_eq_getElem hj]
theorem grown_alloc {w w' : World} {o : Obj} {g : Nat} (h : (w.alloc o).grownBy w' (some g)) : w.grownBy w' (some g) :=
  ⟨h.os, h.tape, h.output, Nat.le_trans (by simp) h.size, fun k hk hne => (h.block k (by simp; omega) hne).trans (Below.heap_alloc w o k hk)⟩

/-- Some bytes, fewer than m, and a number. -/
structure DrawnPutW (w : World) (e : Ending) (w' : World) : Prop where
  out : ∃ (q c : Nat) (ds : List UInt8) (n : Int), e = .returned (.tuple #[.slice (some ⟨q, 0, none⟩) ds.length c, .int .i64 n]) ∧ ds.length < 4 ∧ -9223372036854775808 ≤ n ∧ n ≤ 9223372036854775807 ∧ w.heap.size ≤ q ∧ Own w' q c ds ∧ Below w.heap.size w w'

/-- What is drawn of a number: one of those that the specification lists. -/
theorem nums_in : ∀ z ∈ ([0, 1, 7, 255, 256, 4660, 65535, 65536, -1, 9223372036854775807, -9223372036854775808] : List Int), -9223372036854775808 ≤ z ∧ z ≤ 9223372036854775807 := by
  intro z hz
  simp only [List.mem_cons, List.not_mem_nil, or_false] at hz
  omega

set_option maxHeartbeats 400000 in
theorem l1Num_any (g : Nat) (ao : Option Addr) (len cap : Nat) (bs : List UInt8) (w : World) (hl : len ≤ 1073741824) (h : Cursor w g ao len cap bs) :
    Calls Try.prog 22 #[.pointer (some ⟨g, 0, none⟩)] w fun e w' => ∃ z : Int, (-9223372036854775808 ≤ z ∧ z ≤ 9223372036854775807) ∧ e = .returned (.int .i64 z) ∧ Cursor w' g ao len cap bs ∧ w.grownBy w' (some g) := by
  have H : Hd (Cursor w g ao len cap bs) := ⟨h⟩
  have hlt := h.lt
  clear h
  go_enter Try.func22, Try.ntmps22
  go_wp2_with fail
  refine (l1Int_any g w.heap.size 11 11 ao len cap bs [0, 1, 7, 255, 256, 4660, 65535, 65536, -1, 9223372036854775807, -9223372036854775808] _ hl (by omega) (by omega) rfl (by omega) ?cells (H.out.below ((Below.refl _ w).alloc (Nat.le_refl _) _))).mono ?_
  case cells => exact lit_ints w [0, 1, 7, 255, 256, 4660, 65535, 65536, -1, 9223372036854775807, -9223372036854775808] _
  rintro e w1 ⟨z, hz, rfl, hC, hG⟩
  have HC : Hd (Cursor w1 g ao len cap bs) := ⟨hC⟩
  have HG : Hd (w.grownBy w1 (some g)) := ⟨grown_alloc hG⟩
  have HZ : Hd (-9223372036854775808 ≤ z ∧ z ≤ 9223372036854775807) := ⟨nums_in z hz⟩
  clear hC hG hz
  go_wp2_with fail
  go_ret
  exact ⟨z, HZ.out, rfl, HC.out, HG.out⟩

theorem texts_in : ∀ z ∈ ([⟨#[]⟩, ⟨#[97]⟩, ⟨#[98, 49]⟩, ⟨#[115, 105, 120, 108, 101, 116]⟩, ⟨#[115, 101, 118, 101, 110, 108, 101]⟩, ⟨#[65]⟩, ⟨#[97, 32, 98]⟩, ⟨#[0]⟩, ⟨#[104, 101, 108, 108, 111]⟩] : List ByteArray), z.size ≤ 7 := by
  intro z hz
  simp only [List.mem_cons, List.not_mem_nil, or_false] at hz
  rcases hz with rfl | rfl | rfl | rfl | rfl | rfl | rfl | rfl | rfl <;> decide

set_option maxHeartbeats 400000 in
theorem l1Text_any (g : Nat) (ao : Option Addr) (len cap : Nat) (bs : List UInt8) (w : World) (hl : len ≤ 1073741824) (h : Cursor w g ao len cap bs) :
    Calls Try.prog 24 #[.pointer (some ⟨g, 0, none⟩)] w fun e w' => ∃ s : ByteArray, s.size ≤ 7 ∧ e = .returned (.string s) ∧ Cursor w' g ao len cap bs ∧ w.grownBy w' (some g) := by
  have H : Hd (Cursor w g ao len cap bs) := ⟨h⟩
  have hlt := h.lt
  clear h
  go_enter Try.func24, Try.ntmps24
  go_wp2_with fail
  refine (l1Str_any g w.heap.size 9 9 ao len cap bs [⟨#[]⟩, ⟨#[97]⟩, ⟨#[98, 49]⟩, ⟨#[115, 105, 120, 108, 101, 116]⟩, ⟨#[115, 101, 118, 101, 110, 108, 101]⟩, ⟨#[65]⟩, ⟨#[97, 32, 98]⟩, ⟨#[0]⟩, ⟨#[104, 101, 108, 108, 111]⟩] _ hl (by omega) (by omega) rfl (by omega) ?cells (H.out.below ((Below.refl _ w).alloc (Nat.le_refl _) _))).mono ?_
  case cells => exact lit_strs w [⟨#[]⟩, ⟨#[97]⟩, ⟨#[98, 49]⟩, ⟨#[115, 105, 120, 108, 101, 116]⟩, ⟨#[115, 101, 118, 101, 110, 108, 101]⟩, ⟨#[65]⟩, ⟨#[97, 32, 98]⟩, ⟨#[0]⟩, ⟨#[104, 101, 108, 108, 111]⟩] _
  rintro e w1 ⟨z, hz, rfl, hC, hG⟩
  have HC : Hd (Cursor w1 g ao len cap bs) := ⟨hC⟩
  have HG : Hd (w.grownBy w1 (some g)) := ⟨grown_alloc hG⟩
  have HZ : Hd (z.size ≤ 7) := ⟨texts_in z hz⟩
  clear hC hG hz
  go_wp2_with fail
  go_ret
  exact ⟨z, HZ.out, rfl, HC.out, HG.out⟩

theorem below_grows {B : Nat} {a w w' : World} {g : Nat} (h : Below B a w) (hg : w.grownBy w' (some g)) (hB : B ≤ w.heap.size) (hr : B ≤ g) : Below B a w' := h.grown hg hB (fun k e => by simp at e; omega)

set_option maxHeartbeats 400000 in
theorem drawPutW_any (ao : Option Addr) (len cap : Nat) (bs : List UInt8) (w : World) (hl : len ≤ 1073741824) (hr : Reads w ao len bs) :
    Calls Try.prog 6 #[.slice ao len cap] w (DrawnPutW w) := by
  have H : Hd (Reads w ao len bs) := ⟨hr⟩
  clear hr
  go_enter Try.func6, Try.ntmps6
  go_wp2_with fail
  refine (l1New_any ao len cap bs _ hl H.out).mono ?_
  rintro e w1 ⟨rfl, hC1, hB1⟩
  have C1 : Hd (Cursor w1 w.heap.size ao len cap bs) := ⟨hC1⟩
  have B1 : Hd (Below w.heap.size w w1) := ⟨hB1⟩
  clear hC1 hB1
  go_wp2_with fail
  refine (l1Below_any w.heap.size ao len cap bs 4 _ hl (by omega) (by omega) C1.out).mono ?_
  rintro e w2 ⟨m, hm, rfl, hC2, hG2⟩
  have C2 : Hd (Cursor w2 w.heap.size ao len cap bs) := ⟨hC2⟩
  have B2 : Hd (Below w.heap.size w w2) := ⟨below_grows B1.out hG2 B1.out.size (Nat.le_refl _)⟩
  clear hC2 hG2 C1 B1
  go_wp2_with fail
  refine (l1Bytes_any w.heap.size ao len cap bs m _ hl (by omega) C2.out).mono ?_
  rintro e w3 ⟨q, c, ds, rfl, hds, hq, hO, hC3, hG3⟩
  have C3 : Hd (Cursor w3 w.heap.size ao len cap bs) := ⟨hC3⟩
  have B3 : Hd (Below w.heap.size w w3) := ⟨below_grows B2.out hG3 B2.out.size (Nat.le_refl _)⟩
  have O3 : Hd (Own w3 q c ds) := ⟨hO⟩
  have D3 : Hd (ds.length = m) := ⟨hds⟩
  have q3 : Hd (w.heap.size < q) := ⟨by have := C2.out.lt; omega⟩
  clear hC3 hG3 hO hds hq C2 B2
  go_wp2_with fail
  refine (l1Num_any w.heap.size ao len cap bs _ hl C3.out).mono ?_
  rintro e w4 ⟨z, hz, rfl, hC4, hG4⟩
  have B4 : Hd (Below w.heap.size w w4) := ⟨below_grows B3.out hG4 B3.out.size (Nat.le_refl _)⟩
  have O4 : Hd (Own w4 q c ds) := ⟨O3.out.grown hG4 (by have := q3.out; omega)⟩
  have HZ : Hd (-9223372036854775808 ≤ z ∧ z ≤ 9223372036854775807) := ⟨hz⟩
  clear hC4 hG4 O3 B3 C3 hz
  go_wp2_with fail
  go_ret2
  exact ⟨q, c, ds, z, by rw [D3.out]; rfl, by rw [D3.out]; exact hm, HZ.out.1, HZ.out.2, Nat.le_of_lt q3.out, O4.out, B4.out⟩

theorem conv_own {w : World} {g c : Nat} {bs : List UInt8} (h : Own w g c bs) {n c2 : Nat} (hn : bs.length = n) :
    (convert 22 9 (.slice (some ⟨g, 0, none⟩) n c2)).run Try.prog w = .ok (.string ⟨bs.toArray⟩) w :=
  conv_some g 0 bs n c2 w hn (fun j hj => by rw [Nat.zero_add]; exact h.row.cell j (by omega))

/-- Some bytes and a text. -/
structure DrawnPutText (w : World) (e : Ending) (w' : World) : Prop where
  out : ∃ (q c : Nat) (ds : List UInt8) (s : ByteArray), e = .returned (.tuple #[.slice (some ⟨q, 0, none⟩) ds.length c, .string s]) ∧ ds.length < 4 ∧ s.size ≤ 61 ∧ w.heap.size ≤ q ∧ Own w' q c ds ∧ Below w.heap.size w w'

/-- A text, and the cursor gone on; new memory may have been made. -/
structure TextOut (w : World) (g : Nat) (ao : Option Addr) (len cap : Nat) (bs : List UInt8) (s : ByteArray) (w' : World) : Prop where
  size : s.size ≤ 61
  cur : Cursor w' g ao len cap bs
  bel : Below g w w'

set_option maxHeartbeats 400000 in
theorem drawPutText_any (ao : Option Addr) (len cap : Nat) (bs : List UInt8) (w : World) (hl : len ≤ 1073741824) (hr : Reads w ao len bs) :
    Calls Try.prog 9 #[.slice ao len cap] w (DrawnPutText w) := by
  obtain ⟨i0, hi, hz0, hz1, hz2⟩ := info_parts info8
  have H : Hd (Reads w ao len bs) := ⟨hr⟩
  clear hr
  go_enter Try.func9, Try.ntmps9
  go_wp2_with fail
  refine (l1New_any ao len cap bs _ hl H.out).mono ?_
  rintro e w1 ⟨rfl, hC1, hB1⟩
  have C1 : Hd (Cursor w1 w.heap.size ao len cap bs) := ⟨hC1⟩
  have B1 : Hd (Below w.heap.size w w1) := ⟨hB1⟩
  clear hC1 hB1
  go_wp2_with fail
  refine (l1Text_any w.heap.size ao len cap bs _ hl C1.out).mono ?_
  rintro e w2 ⟨s, hs, rfl, hC2, hG2⟩
  have C2 : Hd (Cursor w2 w.heap.size ao len cap bs) := ⟨hC2⟩
  have B2 : Hd (Below w.heap.size w w2) := ⟨below_grows B1.out hG2 B1.out.size (Nat.le_refl _)⟩
  have S2 : Hd (s.size ≤ 61) := ⟨by omega⟩
  clear hC2 hG2 C1 B1 hs
  go_wp2_with fail
  refine (l1Once_any w.heap.size ao len cap bs 10 _ hl (by omega) (by omega) C2.out).mono ?_
  rintro e w3 ⟨b, rfl, hC3, hG3⟩
  have C3 : Hd (Cursor w3 w.heap.size ao len cap bs) := ⟨hC3⟩
  have B3 : Hd (Below w.heap.size w w3) := ⟨below_grows B2.out hG3 B2.out.size (Nat.le_refl _)⟩
  clear hC3 hG3 C2 B2
  cases b with
  | false =>
    go_wp2_with fail
    refine (l1Below_any w.heap.size ao len cap bs 4 _ hl (by omega) (by omega) C3.out).mono ?_
    rintro e w4 ⟨m, hm, rfl, hC4, hG4⟩
    have C4 : Hd (Cursor w4 w.heap.size ao len cap bs) := ⟨hC4⟩
    have B4 : Hd (Below w.heap.size w w4) := ⟨below_grows B3.out hG4 B3.out.size (Nat.le_refl _)⟩
    clear hC4 hG4 C3 B3
    go_wp2_with fail
    refine (l1Bytes_any w.heap.size ao len cap bs m _ hl (by omega) C4.out).mono ?_
    rintro e w5 ⟨q, c, ds, rfl, hds, hq, hO, hC5, hG5⟩
    have B5 : Hd (Below w.heap.size w w5) := ⟨below_grows B4.out hG5 B4.out.size (Nat.le_refl _)⟩
    have O5 : Hd (Own w5 q c ds) := ⟨hO⟩
    have D5 : Hd (ds.length = m) := ⟨hds⟩
    have q5 : Hd (w.heap.size ≤ q) := ⟨by have := C4.out.lt; omega⟩
    clear hC5 hG5 hO hds hq
    go_wp2_with fail
    go_ret2
    exact ⟨q, c, ds, s, by rw [D5.out]; rfl, by rw [D5.out]; exact hm, S2.out, q5.out, O5.out, B5.out⟩
  | true =>
    go_wp2_with fail
    refine (l1Below_any w.heap.size ao len cap bs 2 _ hl (by omega) (by omega) C3.out).mono ?_
    rintro e w4 ⟨x, hx, rfl, hC4, hG4⟩
    have C4 : Hd (Cursor w4 w.heap.size ao len cap bs) := ⟨hC4⟩
    have B4 : Hd (Below w.heap.size w w4) := ⟨below_grows B3.out hG4 B3.out.size (Nat.le_refl _)⟩
    clear hC4 hG4 C3 B3
    go_wp2_with (at_make; refine wpList_make_full _ rfl _ _ 22 rfl w4.heap.size 5 i0 (.int .u8 0) 1 Try.underlying22 hi hz0 hz1 _ _ _ _ (60 + x) rfl rfl ?L1 ?L2 ?b1 ?b2 ?b3 ?_)
    case L1 => omega
    case L2 => omega
    case b1 => rw [hz2]; omega
    case b2 => unfold maxLen; omega
    case b3 => exact Nat.le_refl _
    intro w5 hown hgrow
    have e0 : (madeCells #[.int .u8 0] (60 + x)).toList = (List.replicate (60 + x) (0 : UInt8)).map cb := by
      rw [toList_madeCells_one, List.map_replicate]; rfl
    have hown' : w5.ownsRow w4.heap.size 5 1 (.slice (some ⟨w4.heap.size, 0, none⟩) (60 + x) (60 + x)) (60 + x) ((List.replicate (60 + x) (0 : UInt8)).map cb) := by rw [← e0]; exact hown
    obtain ⟨g5, c5, hv5, _, hO5⟩ := own_row hown' (by simp)
    simp only [Value.slice.injEq, Option.some.injEq, Addr.mk.injEq, and_true, true_and] at hv5
    rw [← hv5.1] at hO5
    have hconv := conv_own hO5 (n := 60 + x) (c2 := 60 + x) (by simp)
    have B45 : Hd (Below w4.heap.size w4 w5) := ⟨(Below.refl _ w4).grown hgrow (Nat.le_refl _) (fun k h => by cases h)⟩
    have C5 : Hd (Cursor w5 w.heap.size ao len cap bs) := ⟨C4.out.below B45.out⟩
    have B5 : Hd (Below w.heap.size w w5) := ⟨Below.next B4.out B45.out⟩
    have S5 : Hd ((⟨(List.replicate (60 + x) (0 : UInt8)).toArray⟩ : ByteArray).size ≤ 61) := ⟨by simp [ByteArray.size]; omega⟩
    clear hown hgrow e0 hown' hv5 hO5 B45 C4 B4 S2
    generalize (List.replicate (60 + x) (0 : UInt8)).toArray = Z at *
    go_wp2_with fail
    refine (l1Below_any w.heap.size ao len cap bs 4 _ hl (by omega) (by omega) C5.out).mono ?_
    rintro e w6 ⟨m, hm, rfl, hC6, hG6⟩
    have C6 : Hd (Cursor w6 w.heap.size ao len cap bs) := ⟨hC6⟩
    have B6 : Hd (Below w.heap.size w w6) := ⟨below_grows B5.out hG6 B5.out.size (Nat.le_refl _)⟩
    clear hC6 hG6 C5 B5 hconv
    go_wp2_with fail
    refine (l1Bytes_any w.heap.size ao len cap bs m _ hl (by omega) C6.out).mono ?_
    rintro e w7 ⟨q, c, ds, rfl, hds, hq, hO, hC7, hG7⟩
    have B7 : Hd (Below w.heap.size w w7) := ⟨below_grows B6.out hG7 B6.out.size (Nat.le_refl _)⟩
    have O7 : Hd (Own w7 q c ds) := ⟨hO⟩
    have D7 : Hd (ds.length = m) := ⟨hds⟩
    have q7 : Hd (w.heap.size ≤ q) := ⟨by have := C6.out.lt; omega⟩
    clear hC7 hG7 hO hds hq
    go_wp2_with fail
    go_ret2
    exact ⟨q, c, ds, ⟨Z⟩, by rw [D7.out]; rfl, by rw [D7.out]; exact hm, S5.out, q7.out, O7.out, B7.out⟩

set_option maxHeartbeats 400000 in
theorem drawNameOk_any (ao : Option Addr) (len cap : Nat) (bs : List UInt8) (w : World) (hl : len ≤ 1073741824) (hr : Reads w ao len bs) :
    Calls Try.prog 11 #[.slice ao len cap] w fun e w' => ∃ s : ByteArray, s.size ≤ 7 ∧ e = .returned (.string s) ∧ Below w.heap.size w w' := by
  have H : Hd (Reads w ao len bs) := ⟨hr⟩
  clear hr
  go_enter Try.func11, Try.ntmps11
  go_wp2_with fail
  refine (l1New_any ao len cap bs _ hl H.out).mono ?_
  rintro e w1 ⟨rfl, hC1, hB1⟩
  have C1 : Hd (Cursor w1 w.heap.size ao len cap bs) := ⟨hC1⟩
  have B1 : Hd (Below w.heap.size w w1) := ⟨hB1⟩
  clear hC1 hB1
  go_wp2_with fail
  refine (l1Text_any w.heap.size ao len cap bs _ hl C1.out).mono ?_
  rintro e w2 ⟨s, hs, rfl, hC2, hG2⟩
  have B2 : Hd (Below w.heap.size w w2) := ⟨below_grows B1.out hG2 B1.out.size (Nat.le_refl _)⟩
  have S2 : Hd (s.size ≤ 7) := ⟨hs⟩
  clear hC2 hG2 C1 B1 hs
  go_wp2_with fail
  go_ret
  exact ⟨s, S2.out, rfl, B2.out⟩

set_option maxHeartbeats 400000 in
theorem big_any (ao : Option Addr) (len cap : Nat) (w : World) : Calls Try.prog 5 #[.slice ao len cap] w fun e w' => e = .returned (.bool (decide (1048576 < (len : Int)))) ∧ w' = w := by
  go_enter Try.func5, Try.ntmps5
  go_wp2_with fail
  go_ret
  exact ⟨rfl, rfl⟩

end Go.Proofs.Ytdaieeonjakdeaa
