/- Contracts of what draws texts and sets out of a code. -/
import Derived.Test.YtcddjfdmodpnjaaDoorBend
import Derived.Test.YtcddjfdmodpnjaaDoorSignsS
import Derived.Test.YtcddjfdmodpnjaaDoorLies
namespace Go.Proofs.YtcddjfdmodpnjaaDoor
open Go.RowKit

/-- A text is drawn, and the cursor goes on. -/
structure TextDrawn (w : World) (g : Nat) (ao : Option Addr) (len cap : Nat) (bs : List UInt8) (m : Nat) (e : Ending) (w' : World) : Prop where
  out : ∃ s : ByteArray, e = .returned (.string s) ∧ s.size ≤ m ∧ Cursor w' g ao len cap bs ∧ w.grownBy w' (some g)

/-- Where the loop of l2Text stands. -/
structure TextAt (w : World) (g : Nat) (ao : Option Addr) (len cap : Nat) (bs : List UInt8) (m j q c n : Nat) (wr : World) : Prop where
  out : ∃ ds : List UInt8, ds.length = n ∧ n + 4 * j ≤ 4 * m ∧ w.heap.size ≤ q ∧ Own wr q c ds ∧ Cursor wr g ao len cap bs ∧ w.grownBy wr (some g)

set_option maxHeartbeats 1000000 in
theorem l2Text_any (g : Nat) (ao : Option Addr) (len cap : Nat) (bs : List UInt8) (m : Nat) (w : World) (hl : len ≤ 1073741824) (hm : m ≤ 255) (h : Cursor w g ao len cap bs) :
    Calls Tryd.prog 57 #[.pointer (some ⟨g, 0, none⟩), .int .i64 (m : Int)] w (TextDrawn w g ao len cap bs (4 * m)) := by
  have H : Hd (Cursor w g ao len cap bs) := ⟨h⟩
  have hlt := h.lt
  clear h
  go_enter Tryd.func57, Tryd.ntmps57
  go_wp2_with fail
  refine (l1Below_any g ao len cap bs (m + 1) _ hl (by omega) (by omega) (H.out.below ((Below.refl _ w).alloc (Nat.le_refl _) _))).mono ?_
  rintro e w1 ⟨x, hx, rfl, hC1, hG1⟩
  have T1 : Hd (TextAt w g ao len cap bs m x w.heap.size 0 0 w1) := ⟨by
    have hO : Own (w.alloc (.cells #[] 5)) w.heap.size 0 [] := ⟨#[], heap_alloc_new w _, by simp, Nat.zero_le _, rfl, by simp⟩
    exact ⟨[], rfl, by omega, Nat.le_refl _, hO.grown hG1 (by omega), hC1, grown_of_alloc hG1⟩⟩
  clear hC1 hG1 H
  go_wp2_with fail
  go_loopw [5, 6] (fun v i wr => ∃ (j q c n : Nat), i = .int .i64 j ∧ v = .slice (some ⟨q, 0, none⟩) n c ∧ Hd (TextAt w g ao len cap bs m j q c n wr)) (fun _ i _ => (intOf i).toNat)
  case atStart => exact ⟨x, w.heap.size, 0, 0, rfl, rfl, T1⟩
  case round =>
    clear T1
    obtain ⟨j, q, c, n, rfl, rfl, T⟩ := hrel
    have hj : n + 4 * j ≤ 1020 := by obtain ⟨ds, _, h2, _⟩ := T.out; omega
    by_cases h0 : 0 < j
    · have hjI : (0 : Int) < (j : Int) := by omega
      have C1 : Hd (Cursor wr g ao len cap bs) := ⟨by obtain ⟨ds, _, _, _, _, h5, _⟩ := T.out; exact h5⟩
      go_wp2_with fail
      refine (l2Sign_any g ao len cap bs _ hl C1.out).mono ?_
      rintro e w2 ⟨z, rfl, _, hC2, hG2⟩
      obtain ⟨ds, d1, d2, d3, d4, d5, d6⟩ := T.out
      have O2 : Hd (Own w2 q c ds) := ⟨d4.grown hG2 (by omega)⟩
      have C2 : Hd (Cursor w2 g ao len cap bs) := ⟨hC2⟩
      have G2 : Hd (w.grownBy w2 (some g)) := ⟨grown_next d6 hG2⟩
      have D1 : Hd (ds.length = n) := ⟨d1⟩
      have D2 : Hd (n + 4 * j ≤ 4 * m) := ⟨d2⟩
      clear hC2 hG2 d1 d2 d3 d4 d5 d6 T C1
      go_wp2_with fail
      refine (specPutSign_some q 0 n c ds z _ D1.out (O2.out.cell D1.out) O2.out.lt (by omega)).mono ?_
      rintro e w3 ⟨q3, c3, rfl, hq3, hO3, hB3⟩
      have T3 : Hd (TextAt w g ao len cap bs m (j - 1) q3 c3 (ds ++ signB z).length w3) := ⟨⟨ds ++ signB z, rfl, by have := signB_len z; have := D1.out; have := D2.out; rw [List.length_append]; omega, by have := G2.out.size; omega, hO3, C2.out.below hB3, grown_next G2.out (grown_below hB3 _)⟩⟩
      generalize (ds ++ signB z).length = n3 at *
      clear hq3 hO3 hB3 O2 C2 G2 D1 D2
      go_wp2_with fail
      go_roundw
      case rel => exact ⟨j - 1, q3, c3, n3, by go_num, rfl, T3⟩
      case measure => simp [intOf]; omega
    · have hjI : ¬ (0 : Int) < (j : Int) := by omega
      obtain ⟨ds, d1, d2, d3, d4, d5, d6⟩ := T.out
      have hcv := conv_owned (d4.owns d1 (Nat.le_refl q))
      have C2 : Hd (Cursor wr g ao len cap bs) := ⟨d5⟩
      have G2 : Hd (w.grownBy wr (some g)) := ⟨d6⟩
      have Hs : Hd ((⟨ds.toArray⟩ : ByteArray).size ≤ 4 * m) := ⟨by show ds.toArray.size ≤ _; rw [List.size_toArray]; omega⟩
      clear d1 d2 d3 d4 d5 d6 T
      generalize ds.toArray = S at *
      go_wp2_with fail
      go_ret
      exact ⟨_, rfl, Hs.out, C2.out, G2.out⟩

theorem bent_in : ∀ z ∈ ([⟨#[255]⟩, ⟨#[192, 128]⟩, ⟨#[224, 128, 128]⟩, ⟨#[237, 160, 128]⟩, ⟨#[244, 144, 128, 128]⟩, ⟨#[194]⟩, ⟨#[226, 130]⟩, ⟨#[128]⟩] : List ByteArray), z.size ≤ 4 := by
  intro z hz
  simp only [List.mem_cons, List.not_mem_nil, or_false] at hz
  rcases hz with rfl | rfl | rfl | rfl | rfl | rfl | rfl | rfl <;> decide

set_option maxHeartbeats 1000000 in
theorem l2Bent_any (g : Nat) (ao : Option Addr) (len cap : Nat) (bs : List UInt8) (w : World) (hl : len ≤ 1073741824) (h : Cursor w g ao len cap bs) :
    Calls Tryd.prog 40 #[.pointer (some ⟨g, 0, none⟩)] w (TextDrawn w g ao len cap bs 28) := by
  have H : Hd (Cursor w g ao len cap bs) := ⟨h⟩
  clear h
  go_enter Tryd.func40, Tryd.ntmps40
  go_wp2_with fail
  refine (l2Text_any g ao len cap bs 6 _ hl (by omega) H.out).mono ?_
  rintro e w1 ⟨s, rfl, hs, hC1, hG1⟩
  have C1 : Hd (Cursor w1 g ao len cap bs) := ⟨hC1⟩
  have G1 : Hd (w.grownBy w1 (some g)) := ⟨hG1⟩
  clear hC1 hG1 H
  go_wp2_with fail
  refine (l1Below_any g ao len cap bs 5 _ hl (by omega) (by omega) C1.out).mono ?_
  rintro e w2 ⟨x, hx, rfl, hC2, hG2⟩
  have C2 : Hd (Cursor w2 g ao len cap bs) := ⟨hC2⟩
  have G2 : Hd (w.grownBy w2 (some g)) := ⟨grown_next G1.out hG2⟩
  have hlt := hC2.lt
  clear hC2 hG2 C1 G1
  by_cases x0 : x = 0
  · subst x0
    go_wp2_with fail
    refine (l1Str_any g w2.heap.size 8 8 ao len cap bs [⟨#[255]⟩, ⟨#[192, 128]⟩, ⟨#[224, 128, 128]⟩, ⟨#[237, 160, 128]⟩, ⟨#[244, 144, 128, 128]⟩, ⟨#[194]⟩, ⟨#[226, 130]⟩, ⟨#[128]⟩] _ hl (by omega) (by omega) rfl (by omega) ?cells (C2.out.below ((Below.refl _ w2).alloc (Nat.le_refl _) _))).mono ?_
    case cells => exact lit_strs w2 [⟨#[255]⟩, ⟨#[192, 128]⟩, ⟨#[224, 128, 128]⟩, ⟨#[237, 160, 128]⟩, ⟨#[244, 144, 128, 128]⟩, ⟨#[194]⟩, ⟨#[226, 130]⟩, ⟨#[128]⟩] _
    rintro e w3 ⟨z, hz, rfl, hC3, hG3⟩
    have C3 : Hd (Cursor w3 g ao len cap bs) := ⟨hC3⟩
    have G3 : Hd (w.grownBy w3 (some g)) := ⟨grown_next G2.out (grown_of_alloc hG3)⟩
    have hz4 := bent_in z hz
    have Hsz : Hd ((s ++ z).size ≤ 28) := ⟨by rw [ByteArray.size_append]; omega⟩
    clear hC3 hG3 hz C2 G2
    go_wp2_with fail
    go_ret
    exact ⟨s ++ z, rfl, Hsz.out, C3.out, G3.out⟩
  · by_cases x1 : x = 1
    · subst x1
      obtain ⟨cp, W, hcv, hby⟩ := conv_string s w2
      have hCW : Hd (Cursor W g ao len cap bs) := ⟨C2.out.below hby.bel⟩
      have hGW : Hd (w.grownBy W (some g)) := ⟨grown_next G2.out (grown_below hby.bel _)⟩
      have hlen : s.data.toList.length = s.size := by rw [Array.length_toList]; rfl
      have Hb : Hd (Bytes w2 W s cp) := ⟨hby⟩
      have Hl : Hd (s.data.toList.length = s.size) := ⟨hlen⟩
      clear hby hlen C2 G2
      go_wp2_with fail
      refine (l1Bend_any g ao len cap bs w2.heap.size s.size cp s.data.toList _ hl (by omega) Hl.out Hb.out.cell (by rw [Hb.out.size]; omega) hCW.out).mono ?_
      rintro e w3 ⟨q, m, c, ds, rfl, d1, d2, d3, d4, d5, d6⟩
      have hcv3 := conv_owned (d4.owns d1 (Nat.le_refl q))
      have C3 : Hd (Cursor w3 g ao len cap bs) := ⟨d5⟩
      have G3 : Hd (w.grownBy w3 (some g)) := ⟨grown_next hGW.out d6⟩
      have Hsz : Hd ((⟨ds.toArray⟩ : ByteArray).size ≤ 28) := ⟨by show ds.toArray.size ≤ _; rw [List.size_toArray]; omega⟩
      clear d1 d2 d3 d4 d5 d6 hCW hGW hcv
      generalize ds.toArray = S at *
      go_wp2_with fail
      go_ret
      exact ⟨_, rfl, Hsz.out, C3.out, G3.out⟩
    · have e0 : ((x : Int) == 0) = false := by simp; omega
      have e1 : ((x : Int) == 1) = false := by simp; omega
      have Hsz : Hd (s.size ≤ 28) := ⟨by omega⟩
      go_wp2_with fail
      go_ret
      exact ⟨s, rfl, Hsz.out, C2.out, G2.out⟩

set_option maxHeartbeats 400000 in
theorem l3Any_any (g : Nat) (ao : Option Addr) (len cap : Nat) (bs : List UInt8) (w : World) (hl : len ≤ 1073741824) (h : Cursor w g ao len cap bs) :
    Calls Tryd.prog 31 #[.pointer (some ⟨g, 0, none⟩)] w (IntDrawn w g ao len cap bs) := by
  have H : Hd (Cursor w g ao len cap bs) := ⟨h⟩
  have hlt := h.lt
  clear h
  go_enter Tryd.func31, Tryd.ntmps31
  go_wp2_with fail
  refine (l1Int_any g w.heap.size 8 8 ao len cap bs [0, 1, 2, 3, 4, 5, 6, -1] _ hl (by omega) (by omega) rfl (by omega) ?cells (H.out.below ((Below.refl _ w).alloc (Nat.le_refl _) _))).mono ?_
  case cells => exact lit_ints w [0, 1, 2, 3, 4, 5, 6, -1] _
  rintro e w1 ⟨z, hz, rfl, hC, hG⟩
  have HC : Hd (Cursor w1 g ao len cap bs) := ⟨hC⟩
  have HG : Hd (w.grownBy w1 (some g)) := ⟨grown_of_alloc hG⟩
  have HZ : Hd (z ≤ 9223372036854775807) := ⟨(by decide : ∀ z ∈ ([0, 1, 2, 3, 4, 5, 6, -1] : List Int), z ≤ 9223372036854775807) z hz⟩
  clear hC hG hz
  go_wp2_with fail
  go_ret
  exact ⟨z, rfl, HZ.out, HC.out, HG.out⟩

end Go.Proofs.YtcddjfdmodpnjaaDoor
