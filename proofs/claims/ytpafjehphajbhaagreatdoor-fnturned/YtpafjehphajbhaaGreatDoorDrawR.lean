/- Contracts of what draws names, sets of long ago, and texts that such a set has. -/
import Derived.Test.YtpafjehphajbhaaGreatDoorDrawA
import Derived.Test.YtpafjehphajbhaaGreatDoorFitP
import Derived.Test.YtpafjehphajbhaaGreatDoorName
namespace Go.Proofs.YtpafjehphajbhaaGreatDoor
set_option maxRecDepth 4000
open Go.RowKit

/-- A set of long ago is drawn. -/
structure SetDrawn (w : World) (g : Nat) (ao : Option Addr) (len cap : Nat) (bs : List UInt8) (e : Ending) (w' : World) : Prop where
  out : ∃ z : Int, e = .returned (.int .i64 z) ∧ inB z 1 5 = true ∧ Cursor w' g ao len cap bs ∧ w.grownBy w' (some g)
/-- A name is drawn. -/
structure NameDrawn (w : World) (g : Nat) (ao : Option Addr) (len cap : Nat) (bs : List UInt8) (e : Ending) (w' : World) : Prop where
  out : ∃ s : ByteArray, e = .returned (.string s) ∧ nameOkB s = true ∧ s.size ≤ 7 ∧ Cursor w' g ao len cap bs ∧ w.grownBy w' (some g)

set_option maxHeartbeats 400000 in
theorem l3Cs_any (g : Nat) (ao : Option Addr) (len cap : Nat) (bs : List UInt8) (w : World) (hl : len ≤ 1073741824) (h : Cursor w g ao len cap bs) :
    Calls Tryz.prog 72 #[.pointer (some ⟨g, 0, none⟩)] w (SetDrawn w g ao len cap bs) := by
  have H : Hd (Cursor w g ao len cap bs) := ⟨h⟩
  clear h
  go_enter Tryz.func72, Tryz.ntmps72
  go_wp2_with fail
  refine (l1Below_any g ao len cap bs 5 _ hl (by omega) (by omega) H.out).mono ?_
  rintro e w1 ⟨x, hx, rfl, hC, hG⟩
  have HW : Hd (wrap64 (1 + (x : Int)) = 1 + (x : Int)) := ⟨wrap64_in (by omega) (by omega)⟩
  have HC : Hd (Cursor w1 g ao len cap bs) := ⟨hC⟩
  have HG : Hd (w.grownBy w1 (some g)) := ⟨hG⟩
  have HI : Hd (inB (1 + (x : Int)) 1 5 = true) := ⟨in_t ⟨by omega, by omega⟩⟩
  clear hC hG hx
  generalize (x : Int) = z at *
  go_wp2_with fail
  go_ret
  exact ⟨1 + z, by show Ending.returned (Value.int IntKind.i64 (wrap64 (1 + z))) = _; rw [HW.out], HI.out, HC.out, HG.out⟩

theorem names_ok : ∀ z ∈ ([⟨#[97]⟩, ⟨#[98]⟩, ⟨#[99]⟩, ⟨#[100]⟩, ⟨#[101, 53]⟩] : List ByteArray), nameOkB z = true ∧ z.size ≤ 7 := by
  intro z hz
  simp only [List.mem_cons, List.not_mem_nil, or_false] at hz
  rcases hz with rfl | rfl | rfl | rfl | rfl <;> exact ⟨by kernel_rfl, by decide⟩
set_option maxHeartbeats 400000 in
theorem l1Name_any (g : Nat) (ao : Option Addr) (len cap : Nat) (bs : List UInt8) (w : World) (hl : len ≤ 1073741824) (h : Cursor w g ao len cap bs) :
    Calls Tryz.prog 29 #[.pointer (some ⟨g, 0, none⟩)] w (NameDrawn w g ao len cap bs) := by
  have H : Hd (Cursor w g ao len cap bs) := ⟨h⟩
  have hlt := h.lt
  clear h
  go_enter Tryz.func29, Tryz.ntmps29
  go_wp2_with fail
  refine (l1Str_any g w.heap.size 5 5 ao len cap bs [⟨#[97]⟩, ⟨#[98]⟩, ⟨#[99]⟩, ⟨#[100]⟩, ⟨#[101, 53]⟩] _ hl (by omega) (by omega) rfl (by omega) ?cells (H.out.below ((Below.refl _ w).alloc (Nat.le_refl _) _))).mono ?_
  case cells => exact lit_strs w [⟨#[97]⟩, ⟨#[98]⟩, ⟨#[99]⟩, ⟨#[100]⟩, ⟨#[101, 53]⟩] _
  rintro e w1 ⟨z, hz, rfl, hC, hG⟩
  have HC : Hd (Cursor w1 g ao len cap bs) := ⟨hC⟩
  have HG : Hd (w.grownBy w1 (some g)) := ⟨grown_of_alloc hG⟩
  have HZ : Hd (nameOkB z = true ∧ z.size ≤ 7) := ⟨names_ok z hz⟩
  clear hC hG hz
  go_wp2_with fail
  go_ret
  exact ⟨z, rfl, HZ.out.1, HZ.out.2, HC.out, HG.out⟩
theorem texts_7 : ∀ z ∈ ([⟨#[]⟩, ⟨#[97]⟩, ⟨#[98, 49]⟩, ⟨#[115, 105, 120, 108, 101, 116]⟩, ⟨#[115, 101, 118, 101, 110, 108, 101]⟩, ⟨#[65]⟩, ⟨#[97, 32, 98]⟩, ⟨#[0]⟩, ⟨#[104, 101, 108, 108, 111]⟩] : List ByteArray), z.size ≤ 7 := by
  intro z hz
  simp only [List.mem_cons, List.not_mem_nil, or_false] at hz
  rcases hz with rfl | rfl | rfl | rfl | rfl | rfl | rfl | rfl | rfl <;> decide
set_option maxHeartbeats 400000 in
theorem l1Text_any (g : Nat) (ao : Option Addr) (len cap : Nat) (bs : List UInt8) (w : World) (hl : len ≤ 1073741824) (h : Cursor w g ao len cap bs) :
    Calls Tryz.prog 31 #[.pointer (some ⟨g, 0, none⟩)] w (TextDrawn w g ao len cap bs 7) := by
  have H : Hd (Cursor w g ao len cap bs) := ⟨h⟩
  have hlt := h.lt
  clear h
  go_enter Tryz.func31, Tryz.ntmps31
  go_wp2_with fail
  refine (l1Str_any g w.heap.size 9 9 ao len cap bs [⟨#[]⟩, ⟨#[97]⟩, ⟨#[98, 49]⟩, ⟨#[115, 105, 120, 108, 101, 116]⟩, ⟨#[115, 101, 118, 101, 110, 108, 101]⟩, ⟨#[65]⟩, ⟨#[97, 32, 98]⟩, ⟨#[0]⟩, ⟨#[104, 101, 108, 108, 111]⟩] _ hl (by omega) (by omega) rfl (by omega) ?cells (H.out.below ((Below.refl _ w).alloc (Nat.le_refl _) _))).mono ?_
  case cells => exact lit_strs w [⟨#[]⟩, ⟨#[97]⟩, ⟨#[98, 49]⟩, ⟨#[115, 105, 120, 108, 101, 116]⟩, ⟨#[115, 101, 118, 101, 110, 108, 101]⟩, ⟨#[65]⟩, ⟨#[97, 32, 98]⟩, ⟨#[0]⟩, ⟨#[104, 101, 108, 108, 111]⟩] _
  rintro e w1 ⟨z, hz, rfl, hC, hG⟩
  have HC : Hd (Cursor w1 g ao len cap bs) := ⟨hC⟩
  have HG : Hd (w.grownBy w1 (some g)) := ⟨grown_of_alloc hG⟩
  have HZ : Hd (z.size ≤ 7) := ⟨texts_7 z hz⟩
  clear hC hG hz
  go_wp2_with fail
  go_ret
  exact ⟨z, rfl, HZ.out, HC.out, HG.out⟩

/-- A sign that the set has is drawn. -/
structure FitDrawn (cs : Int) (w : World) (g : Nat) (ao : Option Addr) (len cap : Nat) (bs : List UInt8) (e : Ending) (w' : World) : Prop where
  out : ∃ z : Int, e = .returned (.int .i64 z) ∧ Fit cs z ∧ Cursor w' g ao len cap bs ∧ w.grownBy w' (some g)
set_option maxHeartbeats 400000 in
theorem l5Sign_fit (cs : Int) (hcs : inB cs 1 5 = true) (g : Nat) (ao : Option Addr) (len cap : Nat) (bs : List UInt8) (w : World) (hl : len ≤ 1073741824) (h : Cursor w g ao len cap bs) :
    Calls Tryz.prog 61 #[.pointer (some ⟨g, 0, none⟩), .int .i64 cs] w (FitDrawn cs w g ao len cap bs) := by
  have H : Hd (Cursor w g ao len cap bs) := ⟨h⟩
  have hlt := h.lt
  have hin : 1 ≤ cs ∧ cs ≤ 5 := of_decide_eq_true hcs
  clear h hcs
  by_cases h5 : cs = 5
  · subst h5
    go_enter Tryz.func61, Tryz.ntmps61
    go_wp2_with fail
    refine (l1Int_any g w.heap.size 7 7 ao len cap bs [97, 32, 12353, 12435, 12449, 12534, 12354] _ hl (by omega) (by omega) rfl (by omega) ?cells (H.out.below ((Below.refl _ w).alloc (Nat.le_refl _) _))).mono ?_
    case cells => exact lit_ints w [97, 32, 12353, 12435, 12449, 12534, 12354] _
    rintro e w1 ⟨z, hz, rfl, hC, hG⟩
    have HC : Hd (Cursor w1 g ao len cap bs) := ⟨hC⟩
    have HG : Hd (w.grownBy w1 (some g)) := ⟨grown_of_alloc hG⟩
    have HZ : Hd (Fit 5 z) := ⟨fit_euc z hz⟩
    clear hC hG hz
    go_wp2_with fail
    go_ret
    exact ⟨z, rfl, HZ.out, HC.out, HG.out⟩
  have e0 : (cs == 0) = false := by simp; omega
  have e5 : (cs == 5) = false := by simpa using h5
  have HI : Hd (1 ≤ cs ∧ cs ≤ 4) := ⟨by omega, by omega⟩
  clear h5 hin
  go_enter Tryz.func61, Tryz.ntmps61
  go_wp2_with fail
  refine (l1Int_any g w.heap.size 12 12 ao len cap bs [65, 97, 32, 164, 192, 200, 228, 255, 163, 128, 130, 189] _ hl (by omega) (by omega) rfl (by omega) ?cells (H.out.below ((Below.refl _ w).alloc (Nat.le_refl _) _))).mono ?_
  case cells => exact lit_ints w [65, 97, 32, 164, 192, 200, 228, 255, 163, 128, 130, 189] _
  rintro e w1 ⟨y, hy, rfl, hC, hG⟩
  have HC : Hd (Cursor w1 g ao len cap bs) := ⟨hC⟩
  have HG : Hd (w.grownBy w1 (some g)) := ⟨grown_of_alloc hG⟩
  clear hC hG hy
  obtain ⟨z, hz⟩ : ∃ z, bsN cs y = z := ⟨_, rfl⟩
  have HZ : Hd (bsN cs y = z) := ⟨hz⟩
  obtain ⟨ok, hok⟩ : ∃ ok, bsOk cs y = ok := ⟨_, rfl⟩
  have HK : Hd (bsOk cs y = ok) := ⟨hok⟩
  clear hz hok
  go_wp2_with fail
  refine (specByteSign_any cs y _).mono ?_
  rewrite [HZ.out, HK.out]
  rintro e w2 ⟨rfl, hB⟩
  have C2 : Hd (Cursor w2 g ao len cap bs) := ⟨HC.out.below hB⟩
  have G2 : Hd (w.grownBy w2 (some g)) := ⟨grown_next HG.out (grown_below hB _)⟩
  clear hB HC HG
  cases ok with
  | false =>
    have X1 : Hd (Fit cs 120) := ⟨fit_x cs HI.out⟩
    go_wp2_with fail
    go_ret
    exact ⟨120, rfl, X1.out, C2.out, G2.out⟩
  | true =>
    have X1 : Hd (Fit cs z) := ⟨by rw [← HZ.out]; exact fit_byte HI.out HK.out⟩
    go_wp2_with fail
    go_ret
    exact ⟨z, rfl, X1.out, C2.out, G2.out⟩

/-- A text that both the set and that of today have is drawn. -/
structure BothDrawn (cs : Int) (w : World) (g : Nat) (ao : Option Addr) (len cap : Nat) (bs : List UInt8) (e : Ending) (w' : World) : Prop where
  out : ∃ s : ByteArray, e = .returned (.string s) ∧ s.size ≤ 20 ∧ oOk cs s.data.toList = true ∧ oOk 0 s.data.toList = true ∧ Cursor w' g ao len cap bs ∧ w.grownBy w' (some g)
/-- Where the loop of l5Text stands. -/
structure FitAt (cs : Int) (w : World) (g : Nat) (ao : Option Addr) (len cap : Nat) (bs : List UInt8) (j q c n : Nat) (wr : World) : Prop where
  out : ∃ zs : List Int, (∀ z ∈ zs, Fit cs z) ∧ (zs.flatMap signB).length = n ∧ zs.length + j ≤ 5 ∧ w.heap.size ≤ q ∧ Own wr q c (zs.flatMap signB) ∧ Cursor wr g ao len cap bs ∧ w.grownBy wr (some g)
theorem fit_len (zs : List Int) : (zs.flatMap signB).length ≤ 4 * zs.length := by
  induction zs with
  | nil => simp
  | cons z r ih => have := signB_len z; rw [List.flatMap_cons, List.length_append, List.length_cons]; omega
set_option maxHeartbeats 1000000 in
theorem l5Text_fit (cs : Int) (hcs : inB cs 1 5 = true) (g : Nat) (ao : Option Addr) (len cap : Nat) (bs : List UInt8) (w : World) (hl : len ≤ 1073741824) (h : Cursor w g ao len cap bs) :
    Calls Tryz.prog 32 #[.pointer (some ⟨g, 0, none⟩), .int .i64 cs, .int .i64 5] w (BothDrawn cs w g ao len cap bs) := by
  have H : Hd (Cursor w g ao len cap bs) := ⟨h⟩
  have hlt := h.lt
  have HI : Hd (inB cs 1 5 = true ∧ inB cs 0 5 = true) := ⟨hcs, in_t ⟨by have : 1 ≤ cs ∧ cs ≤ 5 := of_decide_eq_true hcs; omega, by have : 1 ≤ cs ∧ cs ≤ 5 := of_decide_eq_true hcs; omega⟩⟩
  clear h hcs
  go_enter Tryz.func32, Tryz.ntmps32
  go_wp2_with fail
  refine (l1Below_any g ao len cap bs 6 _ hl (by omega) (by omega) (H.out.below ((Below.refl _ w).alloc (Nat.le_refl _) _))).mono ?_
  rintro e w1 ⟨x, hx, rfl, hC1, hG1⟩
  have T1 : Hd (FitAt cs w g ao len cap bs x w.heap.size 0 0 w1) := ⟨by
    have hO : Own (w.alloc (.cells #[] 5)) w.heap.size 0 [] := ⟨#[], heap_alloc_new w _, by simp, Nat.zero_le _, rfl, by simp⟩
    exact ⟨[], (fun z hz => by cases hz), rfl, by simp; omega, Nat.le_refl _, hO.grown hG1 (by omega), hC1, grown_of_alloc hG1⟩⟩
  clear hC1 hG1 H
  go_wp2_with fail
  go_loopw [7, 8] (fun v i wr => ∃ (j q c n : Nat), i = .int .i64 j ∧ v = .slice (some ⟨q, 0, none⟩) n c ∧ Hd (FitAt cs w g ao len cap bs j q c n wr)) (fun _ i _ => (intOf i).toNat)
  case atStart => exact ⟨x, w.heap.size, 0, 0, rfl, rfl, T1⟩
  case round =>
    clear T1
    obtain ⟨j, q, c, n, rfl, rfl, T⟩ := hrel
    have hj : n ≤ 20 ∧ j ≤ 5 := by obtain ⟨zs, _, h1, h2, _⟩ := T.out; have := fit_len zs; omega
    by_cases h0 : 0 < j
    · have hjI : (0 : Int) < (j : Int) := by omega
      have C1 : Hd (Cursor wr g ao len cap bs) := ⟨by obtain ⟨zs, _, _, _, _, _, h5, _⟩ := T.out; exact h5⟩
      go_wp2_with fail
      refine (l5Sign_fit cs HI.out.1 g ao len cap bs _ hl C1.out).mono ?_
      rintro e w2 ⟨z, rfl, hz, hC2, hG2⟩
      obtain ⟨zs, d0, d1, d2, d3, d4, d5, d6⟩ := T.out
      obtain ⟨ds, hds⟩ : ∃ ds, zs.flatMap signB = ds := ⟨_, rfl⟩
      have HD : Hd (zs.flatMap signB = ds) := ⟨hds⟩
      rw [hds] at d1 d4
      have O2 : Hd (Own w2 q c ds) := ⟨d4.grown hG2 (by omega)⟩
      have C2 : Hd (Cursor w2 g ao len cap bs) := ⟨hC2⟩
      have G2 : Hd (w.grownBy w2 (some g)) := ⟨grown_next d6 hG2⟩
      have D1 : Hd (ds.length = n) := ⟨d1⟩
      have D2 : Hd ((zs ++ [z]).length + (j - 1) ≤ 5 ∧ ∀ y ∈ zs ++ [z], Fit cs y) := ⟨by rw [List.length_append]; simp; omega, fun y hy => by
        rcases List.mem_append.1 hy with h | h
        · exact d0 y h
        · rw [List.mem_singleton.1 h]; exact hz⟩
      clear hC2 hG2 d0 d1 d2 d3 d4 d5 d6 T C1 hds hz
      go_wp2_with fail
      refine (specPutSign_some q 0 n c ds z _ D1.out (O2.out.cell D1.out) O2.out.lt (by omega)).mono ?_
      rintro e w3 ⟨q3, c3, rfl, hq3, hO3, hB3⟩
      have T3 : Hd (FitAt cs w g ao len cap bs (j - 1) q3 c3 (ds ++ signB z).length w3) := ⟨⟨zs ++ [z], D2.out.2, by rw [List.flatMap_append, HD.out]; simp, D2.out.1, by have := G2.out.size; omega, by rw [List.flatMap_append, HD.out]; simpa using hO3, C2.out.below hB3, grown_next G2.out (grown_below hB3 _)⟩⟩
      generalize (ds ++ signB z).length = n3 at *
      clear hq3 hO3 hB3 O2 C2 G2 D1 D2 HD
      go_wp2_with fail
      go_roundw
      case rel => exact ⟨j - 1, q3, c3, n3, by go_num, rfl, T3⟩
      case measure => simp [intOf]; omega
    · have hjI : ¬ (0 : Int) < (j : Int) := by omega
      obtain ⟨zs, d0, d1, d2, d3, d4, d5, d6⟩ := T.out
      have hcv := conv_owned (d4.owns d1 (Nat.le_refl q))
      have C2 : Hd (Cursor wr g ao len cap bs) := ⟨d5⟩
      have G2 : Hd (w.grownBy wr (some g)) := ⟨d6⟩
      obtain ⟨f1, f2⟩ := fits_both HI.out.2 d0 (by omega)
      have Hs : Hd ((⟨(zs.flatMap signB).toArray⟩ : ByteArray).size ≤ 20 ∧ oOk cs (⟨(zs.flatMap signB).toArray⟩ : ByteArray).data.toList = true ∧ oOk 0 (⟨(zs.flatMap signB).toArray⟩ : ByteArray).data.toList = true) := ⟨by show (zs.flatMap signB).toArray.size ≤ _; rw [List.size_toArray]; omega, f1, f2⟩
      clear d0 d1 d2 d3 d4 d5 d6 T f1 f2
      generalize (zs.flatMap signB).toArray = S at *
      go_wp2_with fail
      go_ret
      exact ⟨_, rfl, Hs.out.1, Hs.out.2.1, Hs.out.2.2, C2.out, G2.out⟩

end Go.Proofs.YtpafjehphajbhaaGreatDoor
