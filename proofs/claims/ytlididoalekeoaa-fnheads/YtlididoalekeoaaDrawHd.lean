/- Contracts of what the law of heads draws. -/
import Derived.Test.YtlididoalekeoaaBend
import Derived.Test.YtlididoalekeoaaHeadS
namespace Go.Proofs.Ytlididoalekeoaa
set_option maxRecDepth 4000
open Go.RowKit

set_option maxHeartbeats 400000 in
theorem drawHeadOf_any (ao : Option Addr) (len cap : Nat) (bs : List UInt8) (w : World) (hl : len ≤ 1073741824) (hr : Reads w ao len bs) :
    Calls Try.prog 17 #[.slice ao len cap] w (DrawnTwo w) := by
  have H : Hd (Reads w ao len bs) := ⟨hr⟩
  clear hr
  go_enter Try.func17, Try.ntmps17
  go_wp2_with fail
  refine (l1New_any ao len cap bs _ hl H.out).mono ?_
  rintro e w1 ⟨rfl, hC1, hB1⟩
  have C1 : Hd (Cursor w1 w.heap.size ao len cap bs) := ⟨hC1⟩
  have B1 : Hd (Below w.heap.size w w1) := ⟨hB1⟩
  have hlt := hC1.lt
  clear hC1 hB1
  go_wp2_with fail
  refine (l1Int_any w.heap.size w1.heap.size 6 6 ao len cap bs [0, 1, 2, 60000, 60001, -1] _ hl (by omega) (by omega) rfl (by omega) ?cells (C1.out.below ((Below.refl _ w1).alloc (Nat.le_refl _) _))).mono ?_
  case cells => exact lit_ints w1 [0, 1, 2, 60000, 60001, -1] _
  rintro e w2 ⟨y, hy, rfl, hC2, hG2⟩
  have C2 : Hd (Cursor w2 w.heap.size ao len cap bs) := ⟨hC2⟩
  have B2 : Hd (Below w.heap.size w w2) := ⟨below_grows B1.out (grown_of_alloc hG2) B1.out.size (Nat.le_refl _)⟩
  have HY : Hd (y ≤ 9223372036854775807) := ⟨(by decide : ∀ z ∈ ([0, 1, 2, 60000, 60001, -1] : List Int), z ≤ 9223372036854775807) y hy⟩
  have hlt2 := hC2.lt
  clear hC2 hG2 C1 B1 hy
  go_wp2_with fail
  refine (l1Int_any w.heap.size w2.heap.size 5 5 ao len cap bs [0, 5, 30, 31, -1] _ hl (by omega) (by omega) rfl (by omega) ?cells2 (C2.out.below ((Below.refl _ w2).alloc (Nat.le_refl _) _))).mono ?_
  case cells2 => exact lit_ints w2 [0, 5, 30, 31, -1] _
  rintro e w3 ⟨z, hz, rfl, hC3, hG3⟩
  have B3 : Hd (Below w.heap.size w w3) := ⟨below_grows B2.out (grown_of_alloc hG3) B2.out.size (Nat.le_refl _)⟩
  have HZ : Hd (z ≤ 9223372036854775807) := ⟨(by decide : ∀ z ∈ ([0, 5, 30, 31, -1] : List Int), z ≤ 9223372036854775807) z hz⟩
  clear hC3 hG3 C2 B2 hz
  go_wp2_with fail
  go_ret2
  exact ⟨y, z, rfl, HY.out, HZ.out, B3.out⟩

/-- Six bytes at most, in new memory. -/
structure DrawnHead (w : World) (e : Ending) (w' : World) : Prop where
  out : ∃ (q m c : Nat) (ds : List UInt8), e = .returned (.slice (some ⟨q, 0, none⟩) m c) ∧ ds.length = m ∧ m ≤ 6 ∧ m ≤ c ∧ Own w' q c ds ∧ Below w.heap.size w w'

set_option maxHeartbeats 4000000 in
theorem drawGetHead_any (ao : Option Addr) (len cap : Nat) (bs : List UInt8) (w : World) (hl : len ≤ 1073741824) (hr : Reads w ao len bs) :
    Calls Try.prog 18 #[.slice ao len cap] w (DrawnHead w) := by
  have H : Hd (Reads w ao len bs) := ⟨hr⟩
  clear hr
  go_enter Try.func18, Try.ntmps18
  go_wp2_with fail
  refine (l1New_any ao len cap bs _ hl H.out).mono ?_
  rintro e w1 ⟨rfl, hC1, hB1⟩
  have C1 : Hd (Cursor w1 w.heap.size ao len cap bs) := ⟨hC1⟩
  have B1 : Hd (Below w.heap.size w w1) := ⟨hB1⟩
  clear hC1 hB1
  go_wp2_with fail
  refine (l1Below_any w.heap.size ao len cap bs 5 _ hl (by omega) (by omega) C1.out).mono ?_
  rintro e w2 ⟨x, hx, rfl, hC2, hG2⟩
  have C2 : Hd (Cursor w2 w.heap.size ao len cap bs) := ⟨hC2⟩
  have B2 : Hd (Below w.heap.size w w2) := ⟨below_grows B1.out hG2 B1.out.size (Nat.le_refl _)⟩
  clear hC2 hG2 C1 B1
  go_wp2_with fail
  refine (l1Below_any w.heap.size ao len cap bs 31 _ hl (by omega) (by omega) C2.out).mono ?_
  rintro e w3 ⟨y, hy, rfl, hC3, hG3⟩
  have C3 : Hd (Cursor w3 w.heap.size ao len cap bs) := ⟨hC3⟩
  have B3 : Hd (Below w.heap.size w w3) := ⟨below_grows B2.out hG3 B2.out.size (Nat.le_refl _)⟩
  clear hC3 hG3 C2 B2
  go_wp2_with fail
  refine (specHeadOf_ow (1 + (x : Int)) (y : Int) _).mono ?_
  rintro e w4 ⟨⟨s, m, d, rfl, F, hO, hF⟩, hB4⟩
  obtain ⟨xs, hxs⟩ : ∃ xs, hdB (1 + (x : Int)) (y : Int) = xs := ⟨_, rfl⟩
  have hok : hdOk (1 + (x : Int)) (y : Int) = true := (hdOk_iff _ _).2 (by omega)
  have h6 : xs.length = 6 := by rw [← hxs, hdB_t hok]; rfl
  rw [hxs] at hO
  obtain ⟨hlt4, hm4, hcase⟩ := owB_parts hO
  obtain ⟨q, rfl, hFq, hRow⟩ : ∃ q, s = some ⟨q, 0, none⟩ ∧ F q ∧ Row w4 q xs := by
    rcases hcase with ⟨_, h0⟩ | h
    · rw [h0] at h6; simp at h6
    · exact h
  obtain rfl : m = 6 := by omega
  have X4 : Hd (∀ j, j < 6 → w4.cell? ⟨q, 0 + j, none⟩ = some (.int .u8 ((xs.getD j 0).toNat : Int))) := ⟨fun j hj => by rw [Nat.zero_add]; exact hRow.cell j (by omega)⟩
  have L4 : Hd (q < w4.heap.size ∧ xs.length = 6) := ⟨hlt4 q hFq, h6⟩
  have C4 : Hd (Cursor w4 w.heap.size ao len cap bs) := ⟨C3.out.below hB4⟩
  have B4 : Hd (Below w.heap.size w w4) := ⟨Below.next B3.out hB4⟩
  clear hO hF hB4 hlt4 hm4 hcase hRow hFq h6 hok hxs C3 B3
  go_wp2_with fail
  refine (l1Bend_any w.heap.size ao len cap bs q 6 d xs _ hl (by omega) L4.out.2 X4.out L4.out.1 C4.out).mono ?_
  rintro e w5 ⟨q5, m5, c5, ds, rfl, hds, hm5, hq5, hO5, hC5, hG5⟩
  have O5 : Hd (Own w5 q5 c5 ds ∧ ds.length = m5 ∧ w.heap.size ≤ q5 ∧ m5 ≤ c5) := ⟨hO5, hds, by have := B4.out.size; omega, by have := hO5.le; omega⟩
  have C5 : Hd (Cursor w5 w.heap.size ao len cap bs) := ⟨hC5⟩
  have B5 : Hd (Below w.heap.size w w5) := ⟨below_grows B4.out hG5 B4.out.size (Nat.le_refl _)⟩
  have q5g : q5 ≠ w.heap.size := by have := C4.out.lt; omega
  clear hO5 hds hq5 hC5 hG5 C4 B4 X4 L4
  go_wp2_with fail
  refine (l1Once_any w.heap.size ao len cap bs 5 _ hl (by omega) (by omega) C5.out).mono ?_
  rintro e w6 ⟨b, rfl, hC6, hG6⟩
  have C6 : Hd (Cursor w6 w.heap.size ao len cap bs) := ⟨hC6⟩
  have O6 : Hd (Own w6 q5 c5 ds ∧ ds.length = m5 ∧ w.heap.size ≤ q5 ∧ m5 ≤ c5) := ⟨O5.out.1.grown hG6 q5g, O5.out.2.1, O5.out.2.2.1, O5.out.2.2.2⟩
  have B6 : Hd (Below w.heap.size w w6) := ⟨below_grows B5.out hG6 B5.out.size (Nat.le_refl _)⟩
  clear hC6 hG6 C5 B5 O5
  cases b with
  | false =>
    go_wp2_with fail
    go_ret
    exact ⟨q5, m5, c5, ds, rfl, O6.out.2.1, hm5, O6.out.2.2.2, O6.out.1, B6.out⟩
  | true =>
    by_cases h6 : ¬ m5 = 6
    · have h6' : ((m5 : Int) == 6) = false := by simp; omega
      go_wp2_with fail
      go_ret
      exact ⟨q5, m5, c5, ds, rfl, O6.out.2.1, hm5, O6.out.2.2.2, O6.out.1, B6.out⟩
    obtain rfl : m5 = 6 := Decidable.of_not_not h6
    have hc4 : (4 : Int) ≤ (c5 : Int) := by have := O6.out.2.2.2; omega
    have K6 : Hd (BendAt w6 w.heap.size ao len cap bs q5 c5 4 (ds.take 4) w6) := ⟨O6.out.1.take 4, by have := O6.out.2.1; simp; omega, C6.out, World.grownBy.refl _ _⟩
    go_wp2_with fail
    refine (l1Below_bend w6 w.heap.size ao len cap bs q5 c5 4 (ds.take 4) 4 _ hl (by omega) (by omega) q5g K6).mono ?_
    rintro e w7 ⟨k, rfl, hk, hkI, K7⟩
    have hlt7 := K7.out.cur.lt
    go_wp2_with fail
    refine (l1Int_any w.heap.size w7.heap.size 3 3 ao len cap bs [0, 31, 255] _ hl (by omega) (by omega) rfl (by omega) ?cells (K7.out.cur.below ((Below.refl _ w7).alloc (Nat.le_refl _) _))).mono ?_
    case cells => exact lit_ints w7 [0, 31, 255] _
    rintro e w8 ⟨z, hz, rfl, hC8, hG8⟩
    have K8 : Hd (BendAt w6 w.heap.size ao len cap bs q5 c5 4 (ds.take 4) w8) := ⟨⟨K7.out.own.grown (grown_of_alloc hG8) q5g, K7.out.size, hC8, grown_next K7.out.gr (grown_of_alloc hG8)⟩⟩
    clear hC8 hG8 K7 K6 hz
    have cell8 := K8.out.own.row.cell k (by rw [K8.out.size]; exact hk)
    have free8 := K8.out.own.row.free k
    have hkI0 : (0 : Int) ≤ (k : Int) := by omega
    go_wp2_with fail
    obtain ⟨v, hv⟩ : ∃ v : UInt8, z % 256 = (v.toNat : Int) := ⟨UInt8.ofNat (z % 256).toNat, by rw [UInt8.toNat_ofNat']; omega⟩
    rewrite [hv]
    have O9 : Hd (Own (w8.setCell ⟨q5, k, none⟩ (.int .u8 (v.toNat : Int))) q5 c5 ((ds.take 4).set k v) ∧ ((ds.take 4).set k v).length = 4 ∧ Below w.heap.size w (w8.setCell ⟨q5, k, none⟩ (.int .u8 (v.toNat : Int)))) := ⟨K8.out.own.store k v, by rw [List.length_set]; exact K8.out.size, (below_grows B6.out K8.out.gr B6.out.size (Nat.le_refl _)).setCell (p := ⟨q5, k, none⟩) O6.out.2.2.1 _⟩
    generalize w8.setCell ⟨q5, k, none⟩ (.int .u8 (v.toNat : Int)) = w9 at *
    generalize (ds.take 4).set k v = zs at *
    clear hv cell8 free8 K8 hkI hkI0 hk
    refine (specSum_any _ 4 c5 zs _ (O9.out.1.row.reads O9.out.2.1) (by omega)).mono ?_
    rintro e w10 ⟨rfl, hw⟩
    replace hw := hw.symm
    subst hw
    go_wp2_with fail
    refine (specPutW_some q5 0 4 c5 zs _ _ O9.out.2.1 (O9.out.1.cell O9.out.2.1) O9.out.1.lt (by omega)).mono ?_
    rintro e w11 ⟨g11, c11, rfl, hg11, hO11, hB11⟩
    have Z : Hd (Own w11 g11 c11 (zs ++ [hiB ((sumOf zs : Nat) : Int), loB ((sumOf zs : Nat) : Int)]) ∧ (zs ++ [hiB ((sumOf zs : Nat) : Int), loB ((sumOf zs : Nat) : Int)]).length = 6 ∧ Below w.heap.size w w11) := ⟨hO11, by simp [O9.out.2.1], Below.next O9.out.2.2 hB11⟩
    generalize zs ++ [hiB ((sumOf zs : Nat) : Int), loB ((sumOf zs : Nat) : Int)] = ys at *
    clear hO11 hB11 hg11 O9
    go_wp2_with fail
    go_ret
    exact ⟨g11, 6, c11, ys, rfl, Z.out.2.1, Nat.le_refl _, by have := Z.out.1.le; have := Z.out.2.1; omega, Z.out.1, Z.out.2.2⟩

end Go.Proofs.Ytlididoalekeoaa
