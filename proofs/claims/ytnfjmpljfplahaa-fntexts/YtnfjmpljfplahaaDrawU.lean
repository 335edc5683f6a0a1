/- Contracts of what draws signs and texts of signs out of a code. -/
import Derived.Test.YtnfjmpljfplahaaDraw
import Derived.Test.YtnfjmpljfplahaaSignsS
namespace Go.Proofs.Ytnfjmpljfplahaa
open Go.RowKit

theorem lit_ints (w : World) (zs : List Int) (T : TypeId) : ∀ j, j < zs.length → (w.alloc (.cells (zs.map (Value.int .i64)).toArray T)).cell? ⟨w.heap.size, j, none⟩ = some (.int .i64 (zs.getD j 0)) := by
  intro j hj
  rw [cell_of_row (w.alloc _) _ j _ _ (0, 0) (heap_alloc_new w _)]
  simp [List.getD, List.getElem?_eq_getElem hj]
theorem lit_strs (w : World) (zs : List ByteArray) (T : TypeId) : ∀ j, j < zs.length → (w.alloc (.cells (zs.map Value.string).toArray T)).cell? ⟨w.heap.size, j, none⟩ = some (.string (zs.getD j ⟨#[]⟩)) := by
  intro j hj
  rw [cell_of_row (w.alloc _) _ j _ _ (0, 0) (heap_alloc_new w _)]
  simp [List.getD, List.getElem?_eq_getElem hj]
theorem below_grows {B : Nat} {a w w' : World} {g : Nat} (h : Below B a w) (hg : w.grownBy w' (some g)) (hB : B ≤ w.heap.size) (hr : B ≤ g) : Below B a w' := h.grown hg hB (fun k e => by simp at e; omega)
theorem grown_below {w w' : World} (h : Below w.heap.size w w') (r : Option Nat) : w.grownBy w' r := ⟨h.os, h.tape, h.output, h.size, fun k hk _ => h.block k hk⟩

set_option maxHeartbeats 400000 in
theorem big_any (ao : Option Addr) (len cap : Nat) (w : World) : Calls Try.prog 9 #[.slice ao len cap] w fun e w' => e = .returned (.bool (decide (1048576 < (len : Int)))) ∧ w' = w := by
  go_enter Try.func9, Try.ntmps9
  go_wp2_with fail
  go_ret
  exact ⟨rfl, rfl⟩

/-- A number is drawn, and the cursor goes on. -/
structure IntDrawn (w : World) (g : Nat) (ao : Option Addr) (len cap : Nat) (bs : List UInt8) (e : Ending) (w' : World) : Prop where
  out : ∃ z : Int, e = .returned (.int .i64 z) ∧ Cursor w' g ao len cap bs ∧ w.grownBy w' (some g)
/-- A text is drawn, of at most m bytes. -/
structure TextDrawn (w : World) (g : Nat) (ao : Option Addr) (len cap : Nat) (bs : List UInt8) (m : Nat) (e : Ending) (w' : World) : Prop where
  out : ∃ s : ByteArray, e = .returned (.string s) ∧ s.size ≤ m ∧ Cursor w' g ao len cap bs ∧ w.grownBy w' (some g)

set_option maxHeartbeats 400000 in
theorem l2Sign_any (g : Nat) (ao : Option Addr) (len cap : Nat) (bs : List UInt8) (w : World) (hl : len ≤ 1073741824) (h : Cursor w g ao len cap bs) :
    Calls Try.prog 53 #[.pointer (some ⟨g, 0, none⟩)] w (IntDrawn w g ao len cap bs) := by
  have H : Hd (Cursor w g ao len cap bs) := ⟨h⟩
  have hlt := h.lt
  clear h
  go_enter Try.func53, Try.ntmps53
  go_wp2_with fail
  refine (l1Int_any g w.heap.size 19 19 ao len cap bs [0, 97, 90, 127, 128, 164, 233, 2047, 2048, 8364, 1072, 1102, 1025, 12354, 12450, 352, 65535, 65536, 1114111] _ hl (by omega) (by omega) rfl (by omega) ?cells (H.out.below ((Below.refl _ w).alloc (Nat.le_refl _) _))).mono ?_
  case cells => exact lit_ints w [0, 97, 90, 127, 128, 164, 233, 2047, 2048, 8364, 1072, 1102, 1025, 12354, 12450, 352, 65535, 65536, 1114111] _
  rintro e w1 ⟨z, hz, rfl, hC, hG⟩
  have HC : Hd (Cursor w1 g ao len cap bs) := ⟨hC⟩
  have HG : Hd (w.grownBy w1 (some g)) := ⟨grown_of_alloc hG⟩
  clear hC hG hz
  go_wp2_with fail
  go_ret
  exact ⟨z, rfl, HC.out, HG.out⟩

set_option maxHeartbeats 400000 in
theorem l2Any_any (g : Nat) (ao : Option Addr) (len cap : Nat) (bs : List UInt8) (w : World) (hl : len ≤ 1073741824) (h : Cursor w g ao len cap bs) :
    Calls Try.prog 40 #[.pointer (some ⟨g, 0, none⟩)] w (IntDrawn w g ao len cap bs) := by
  have H : Hd (Cursor w g ao len cap bs) := ⟨h⟩
  clear h
  go_enter Try.func40, Try.ntmps40
  go_wp2_with fail
  refine (l1Once_any g ao len cap bs 5 _ hl (by omega) (by omega) H.out).mono ?_
  rintro e w1 ⟨b, rfl, hC1, hG1⟩
  have C1 : Hd (Cursor w1 g ao len cap bs) := ⟨hC1⟩
  have G1 : Hd (w.grownBy w1 (some g)) := ⟨hG1⟩
  have hlt := hC1.lt
  clear hC1 hG1 H
  cases b with
  | true =>
    go_wp2_with fail
    refine (l1Int_any g w1.heap.size 7 7 ao len cap bs [-1, 55296, 57343, 55295, 57344, 1114112, 9223372036854775807] _ hl (by omega) (by omega) rfl (by omega) ?cells (C1.out.below ((Below.refl _ w1).alloc (Nat.le_refl _) _))).mono ?_
    case cells => exact lit_ints w1 [-1, 55296, 57343, 55295, 57344, 1114112, 9223372036854775807] _
    rintro e w2 ⟨z, hz, rfl, hC, hG⟩
    have HC : Hd (Cursor w2 g ao len cap bs) := ⟨hC⟩
    have HG : Hd (w.grownBy w2 (some g)) := ⟨grown_next G1.out (grown_of_alloc hG)⟩
    clear hC hG hz
    go_wp2_with fail
    go_ret
    exact ⟨z, rfl, HC.out, HG.out⟩
  | false =>
    go_wp2_with fail
    refine (l2Sign_any g ao len cap bs _ hl C1.out).mono ?_
    rintro e w2 ⟨z, rfl, hC, hG⟩
    have HC : Hd (Cursor w2 g ao len cap bs) := ⟨hC⟩
    have HG : Hd (w.grownBy w2 (some g)) := ⟨grown_next G1.out hG⟩
    clear hC hG
    go_wp2_with fail
    go_ret
    exact ⟨z, rfl, HC.out, HG.out⟩

/-- Where the loop of l2Text stands. -/
structure TextAt (w : World) (g : Nat) (ao : Option Addr) (len cap : Nat) (bs : List UInt8) (m j q c n : Nat) (wr : World) : Prop where
  out : ∃ ds : List UInt8, ds.length = n ∧ n + 4 * j ≤ 4 * m ∧ w.heap.size ≤ q ∧ Own wr q c ds ∧ Cursor wr g ao len cap bs ∧ w.grownBy wr (some g)

set_option maxHeartbeats 1000000 in
theorem l2Text_any (g : Nat) (ao : Option Addr) (len cap : Nat) (bs : List UInt8) (m : Nat) (w : World) (hl : len ≤ 1073741824) (hm : m ≤ 255) (h : Cursor w g ao len cap bs) :
    Calls Try.prog 55 #[.pointer (some ⟨g, 0, none⟩), .int .i64 (m : Int)] w (TextDrawn w g ao len cap bs (4 * m)) := by
  have H : Hd (Cursor w g ao len cap bs) := ⟨h⟩
  have hlt := h.lt
  clear h
  go_enter Try.func55, Try.ntmps55
  go_wp2_with fail
  refine (l1Below_any g ao len cap bs (m + 1) _ hl (by omega) (by omega) (H.out.below ((Below.refl _ w).alloc (Nat.le_refl _) _))).mono ?_
  rintro e w1 ⟨x, hx, rfl, hC1, hG1⟩
  have T1 : Hd (TextAt w g ao len cap bs m x w.heap.size 0 0 w1) := ⟨by
    have hO : Own (w.alloc (.cells #[] 5)) w.heap.size 0 [] := ⟨#[], heap_alloc_new w _, by simp, Nat.zero_le _, rfl, by simp⟩
    exact ⟨[], rfl, by omega, Nat.le_refl _, hO.grown hG1 (by omega), hC1, grown_of_alloc hG1⟩⟩
  clear hC1 hG1 H
  go_wp2_with fail
  go_loopw [5, 6] (fun v i wr => ∃ (j q c n : Nat), i = .int .i64 j ∧ v = .slice (some ⟨q, 0, none⟩) n c ∧ Hd (TextAt w g ao len cap bs m j q c n wr)) (fun _ i _ => (intOf i).toNat)
  case atStart => exact ⟨x, w.heap.size, 0, 0, rfl, rfl, T1⟩
  case round =>
    clear T1
    obtain ⟨j, q, c, n, rfl, rfl, T⟩ := hrel
    have hj : n + 4 * j ≤ 1020 := by obtain ⟨ds, _, h2, _⟩ := T.out; omega
    by_cases h0 : 0 < j
    · have hjI : (0 : Int) < (j : Int) := by omega
      have C1 : Hd (Cursor wr g ao len cap bs) := ⟨by obtain ⟨ds, _, _, _, _, h5, _⟩ := T.out; exact h5⟩
      go_wp2_with fail
      refine (l2Sign_any g ao len cap bs _ hl C1.out).mono ?_
      rintro e w2 ⟨z, rfl, hC2, hG2⟩
      obtain ⟨ds, d1, d2, d3, d4, d5, d6⟩ := T.out
      have O2 : Hd (Own w2 q c ds) := ⟨d4.grown hG2 (by omega)⟩
      have C2 : Hd (Cursor w2 g ao len cap bs) := ⟨hC2⟩
      have G2 : Hd (w.grownBy w2 (some g)) := ⟨grown_next d6 hG2⟩
      have D1 : Hd (ds.length = n) := ⟨d1⟩
      have D2 : Hd (n + 4 * j ≤ 4 * m) := ⟨d2⟩
      clear hC2 hG2 d1 d2 d3 d4 d5 d6 T C1
      go_wp2_with fail
      refine (specPutSign_some q 0 n c ds z _ D1.out (O2.out.cell D1.out) O2.out.lt (by omega)).mono ?_
      rintro e w3 ⟨q3, c3, rfl, hq3, hO3, hB3⟩
      have T3 : Hd (TextAt w g ao len cap bs m (j - 1) q3 c3 (ds ++ signB z).length w3) := ⟨⟨ds ++ signB z, rfl, by have := signB_len z; have := D1.out; have := D2.out; rw [List.length_append]; omega, by have := G2.out.size; omega, hO3, C2.out.below hB3, grown_next G2.out (grown_below hB3 _)⟩⟩
      generalize (ds ++ signB z).length = n3 at *
      clear hq3 hO3 hB3 O2 C2 G2 D1 D2
      go_wp2_with fail
      go_roundw
      case rel => exact ⟨j - 1, q3, c3, n3, by go_num, rfl, T3⟩
      case measure => simp [intOf]; omega
    · have hjI : ¬ (0 : Int) < (j : Int) := by omega
      obtain ⟨ds, d1, d2, d3, d4, d5, d6⟩ := T.out
      have hcv := conv_owned (d4.owns d1 (Nat.le_refl q))
      have C2 : Hd (Cursor wr g ao len cap bs) := ⟨d5⟩
      have G2 : Hd (w.grownBy wr (some g)) := ⟨d6⟩
      have Hs : Hd ((⟨ds.toArray⟩ : ByteArray).size ≤ 4 * m) := ⟨by show ds.toArray.size ≤ _; rw [List.size_toArray]; omega⟩
      clear d1 d2 d3 d4 d5 d6 T
      generalize ds.toArray = S at *
      go_wp2_with fail
      go_ret
      exact ⟨_, rfl, Hs.out, C2.out, G2.out⟩

set_option maxHeartbeats 400000 in
theorem l1At_any (g : Nat) (ao : Option Addr) (len cap : Nat) (bs : List UInt8) (ad : Option Addr) (L C : Nat) (w : World) (hl : len ≤ 1073741824) (hL : L ≤ 1073741824) (h : Cursor w g ao len cap bs) :
    Calls Try.prog 44 #[.pointer (some ⟨g, 0, none⟩), .slice ad L C] w (IntDrawn w g ao len cap bs) := by
  have H : Hd (Cursor w g ao len cap bs) := ⟨h⟩
  have hlt := h.lt
  clear h
  go_enter Try.func44, Try.ntmps44
  go_wp2_with fail
  refine (l1Int_any g w.heap.size 9 9 ao len cap bs [0, 0, 0, 1, 2, (L : Int), (L : Int) - 1, -1, 9223372036854775807] _ hl (by omega) (by omega) rfl (by omega) ?cells (H.out.below ((Below.refl _ w).alloc (Nat.le_refl _) _))).mono ?_
  case cells => exact lit_ints w [0, 0, 0, 1, 2, (L : Int), (L : Int) - 1, -1, 9223372036854775807] _
  rintro e w1 ⟨z, hz, rfl, hC, hG⟩
  have HC : Hd (Cursor w1 g ao len cap bs) := ⟨hC⟩
  have HG : Hd (w.grownBy w1 (some g)) := ⟨grown_of_alloc hG⟩
  clear hC hG hz
  go_wp2_with fail
  go_ret
  exact ⟨z, rfl, HC.out, HG.out⟩

end Go.Proofs.Ytnfjmpljfplahaa
