/- Contracts of what draws names, sets of long ago, and texts that such a set has. Contracts of what draws rows for the laws of stage 9. The contract of DrawRowOf; that of sameRow. -/
import Derived.Test.YtpafjehphajbhaaGreatDoorDrawA
import Derived.Test.YtpafjehphajbhaaGreatDoorFitP
import Derived.Test.YtpafjehphajbhaaGreatDoorName
import Derived.Test.YtpafjehphajbhaaGreatDoorDrawL
import Derived.Test.YtpafjehphajbhaaGreatDoorRowLM
import Derived.Test.YtpafjehphajbhaaGreatDoorRowVW
import Derived.Test.YtpafjehphajbhaaGreatDoorRowQ
import Derived.Test.YtpafjehphajbhaaGreatDoorCellN
namespace Go.Proofs.YtpafjehphajbhaaGreatDoor
set_option maxRecDepth 4000
open Go.RowKit

/-- A set of long ago is drawn. -/
structure SetDrawn (w : World) (g : Nat) (ao : Option Addr) (len cap : Nat) (bs : List UInt8) (e : Ending) (w' : World) : Prop where
  out : ∃ z : Int, e = .returned (.int .i64 z) ∧ inB z 1 5 = true ∧ Cursor w' g ao len cap bs ∧ w.grownBy w' (some g)
/-- A name is drawn. -/
structure NameDrawn (w : World) (g : Nat) (ao : Option Addr) (len cap : Nat) (bs : List UInt8) (e : Ending) (w' : World) : Prop where
  out : ∃ s : ByteArray, e = .returned (.string s) ∧ nameOkB s = true ∧ s.size ≤ 7 ∧ Cursor w' g ao len cap bs ∧ w.grownBy w' (some g)

set_option maxHeartbeats 400000 in
theorem l3Cs_any (g : Nat) (ao : Option Addr) (len cap : Nat) (bs : List UInt8) (w : World) (hl : len ≤ 1073741824) (h : Cursor w g ao len cap bs) :
    Calls Tryz.prog 72 #[.pointer (some ⟨g, 0, none⟩)] w (SetDrawn w g ao len cap bs) := by
  have H : Hd (Cursor w g ao len cap bs) := ⟨h⟩
  clear h
  go_enter Tryz.func72, Tryz.ntmps72
  go_wp2_with fail
  refine (l1Below_any g ao len cap bs 5 _ hl (by omega) (by omega) H.out).mono ?_
  rintro e w1 ⟨x, hx, rfl, hC, hG⟩
  have HW : Hd (wrap64 (1 + (x : Int)) = 1 + (x : Int)) := ⟨wrap64_in (by omega) (by omega)⟩
  have HC : Hd (Cursor w1 g ao len cap bs) := ⟨hC⟩
  have HG : Hd (w.grownBy w1 (some g)) := ⟨hG⟩
  have HI : Hd (inB (1 + (x : Int)) 1 5 = true) := ⟨in_t ⟨by omega, by omega⟩⟩
  clear hC hG hx
  generalize (x : Int) = z at *
  go_wp2_with fail
  go_ret
  exact ⟨1 + z, by show Ending.returned (Value.int IntKind.i64 (wrap64 (1 + z))) = _; rw [HW.out], HI.out, HC.out, HG.out⟩

theorem names_ok : ∀ z ∈ ([⟨#[97]⟩, ⟨#[98]⟩, ⟨#[99]⟩, ⟨#[100]⟩, ⟨#[101, 53]⟩] : List ByteArray), nameOkB z = true ∧ z.size ≤ 7 := by
  intro z hz
  simp only [List.mem_cons, List.not_mem_nil, or_false] at hz
  rcases hz with rfl | rfl | rfl | rfl | rfl <;> exact ⟨by kernel_rfl, by decide⟩
set_option maxHeartbeats 400000 in
theorem l1Name_any (g : Nat) (ao : Option Addr) (len cap : Nat) (bs : List UInt8) (w : World) (hl : len ≤ 1073741824) (h : Cursor w g ao len cap bs) :
    Calls Tryz.prog 29 #[.pointer (some ⟨g, 0, none⟩)] w (NameDrawn w g ao len cap bs) := by
  have H : Hd (Cursor w g ao len cap bs) := ⟨h⟩
  have hlt := h.lt
  clear h
  go_enter Tryz.func29, Tryz.ntmps29
  go_wp2_with fail
  refine (l1Str_any g w.heap.size 5 5 ao len cap bs [⟨#[97]⟩, ⟨#[98]⟩, ⟨#[99]⟩, ⟨#[100]⟩, ⟨#[101, 53]⟩] _ hl (by omega) (by omega) rfl (by omega) ?cells (H.out.below ((Below.refl _ w).alloc (Nat.le_refl _) _))).mono ?_
  case cells => exact lit_strs w [⟨#[97]⟩, ⟨#[98]⟩, ⟨#[99]⟩, ⟨#[100]⟩, ⟨#[101, 53]⟩] _
  rintro e w1 ⟨z, hz, rfl, hC, hG⟩
  have HC : Hd (Cursor w1 g ao len cap bs) := ⟨hC⟩
  have HG : Hd (w.grownBy w1 (some g)) := ⟨grown_of_alloc hG⟩
  have HZ : Hd (nameOkB z = true ∧ z.size ≤ 7) := ⟨names_ok z hz⟩
  clear hC hG hz
  go_wp2_with fail
  go_ret
  exact ⟨z, rfl, HZ.out.1, HZ.out.2, HC.out, HG.out⟩
theorem texts_7 : ∀ z ∈ ([⟨#[]⟩, ⟨#[97]⟩, ⟨#[98, 49]⟩, ⟨#[115, 105, 120, 108, 101, 116]⟩, ⟨#[115, 101, 118, 101, 110, 108, 101]⟩, ⟨#[65]⟩, ⟨#[97, 32, 98]⟩, ⟨#[0]⟩, ⟨#[104, 101, 108, 108, 111]⟩] : List ByteArray), z.size ≤ 7 := by
  intro z hz
  simp only [List.mem_cons, List.not_mem_nil, or_false] at hz
  rcases hz with rfl | rfl | rfl | rfl | rfl | rfl | rfl | rfl | rfl <;> decide
set_option maxHeartbeats 400000 in
theorem l1Text_any (g : Nat) (ao : Option Addr) (len cap : Nat) (bs : List UInt8) (w : World) (hl : len ≤ 1073741824) (h : Cursor w g ao len cap bs) :
    Calls Tryz.prog 31 #[.pointer (some ⟨g, 0, none⟩)] w (TextDrawn w g ao len cap bs 7) := by
  have H : Hd (Cursor w g ao len cap bs) := ⟨h⟩
  have hlt := h.lt
  clear h
  go_enter Tryz.func31, Tryz.ntmps31
  go_wp2_with fail
  refine (l1Str_any g w.heap.size 9 9 ao len cap bs [⟨#[]⟩, ⟨#[97]⟩, ⟨#[98, 49]⟩, ⟨#[115, 105, 120, 108, 101, 116]⟩, ⟨#[115, 101, 118, 101, 110, 108, 101]⟩, ⟨#[65]⟩, ⟨#[97, 32, 98]⟩, ⟨#[0]⟩, ⟨#[104, 101, 108, 108, 111]⟩] _ hl (by omega) (by omega) rfl (by omega) ?cells (H.out.below ((Below.refl _ w).alloc (Nat.le_refl _) _))).mono ?_
  case cells => exact lit_strs w [⟨#[]⟩, ⟨#[97]⟩, ⟨#[98, 49]⟩, ⟨#[115, 105, 120, 108, 101, 116]⟩, ⟨#[115, 101, 118, 101, 110, 108, 101]⟩, ⟨#[65]⟩, ⟨#[97, 32, 98]⟩, ⟨#[0]⟩, ⟨#[104, 101, 108, 108, 111]⟩] _
  rintro e w1 ⟨z, hz, rfl, hC, hG⟩
  have HC : Hd (Cursor w1 g ao len cap bs) := ⟨hC⟩
  have HG : Hd (w.grownBy w1 (some g)) := ⟨grown_of_alloc hG⟩
  have HZ : Hd (z.size ≤ 7) := ⟨texts_7 z hz⟩
  clear hC hG hz
  go_wp2_with fail
  go_ret
  exact ⟨z, rfl, HZ.out, HC.out, HG.out⟩

/-- A sign that the set has is drawn. -/
structure FitDrawn (cs : Int) (w : World) (g : Nat) (ao : Option Addr) (len cap : Nat) (bs : List UInt8) (e : Ending) (w' : World) : Prop where
  out : ∃ z : Int, e = .returned (.int .i64 z) ∧ Fit cs z ∧ Cursor w' g ao len cap bs ∧ w.grownBy w' (some g)
set_option maxHeartbeats 400000 in
theorem l5Sign_fit (cs : Int) (hcs : inB cs 1 5 = true) (g : Nat) (ao : Option Addr) (len cap : Nat) (bs : List UInt8) (w : World) (hl : len ≤ 1073741824) (h : Cursor w g ao len cap bs) :
    Calls Tryz.prog 61 #[.pointer (some ⟨g, 0, none⟩), .int .i64 cs] w (FitDrawn cs w g ao len cap bs) := by
  have H : Hd (Cursor w g ao len cap bs) := ⟨h⟩
  have hlt := h.lt
  have hin : 1 ≤ cs ∧ cs ≤ 5 := of_decide_eq_true hcs
  clear h hcs
  by_cases h5 : cs = 5
  · subst h5
    go_enter Tryz.func61, Tryz.ntmps61
    go_wp2_with fail
    refine (l1Int_any g w.heap.size 7 7 ao len cap bs [97, 32, 12353, 12435, 12449, 12534, 12354] _ hl (by omega) (by omega) rfl (by omega) ?cells (H.out.below ((Below.refl _ w).alloc (Nat.le_refl _) _))).mono ?_
    case cells => exact lit_ints w [97, 32, 12353, 12435, 12449, 12534, 12354] _
    rintro e w1 ⟨z, hz, rfl, hC, hG⟩
    have HC : Hd (Cursor w1 g ao len cap bs) := ⟨hC⟩
    have HG : Hd (w.grownBy w1 (some g)) := ⟨grown_of_alloc hG⟩
    have HZ : Hd (Fit 5 z) := ⟨fit_euc z hz⟩
    clear hC hG hz
    go_wp2_with fail
    go_ret
    exact ⟨z, rfl, HZ.out, HC.out, HG.out⟩
  have e0 : (cs == 0) = false := by simp; omega
  have e5 : (cs == 5) = false := by simpa using h5
  have HI : Hd (1 ≤ cs ∧ cs ≤ 4) := ⟨by omega, by omega⟩
  clear h5 hin
  go_enter Tryz.func61, Tryz.ntmps61
  go_wp2_with fail
  refine (l1Int_any g w.heap.size 12 12 ao len cap bs [65, 97, 32, 164, 192, 200, 228, 255, 163, 128, 130, 189] _ hl (by omega) (by omega) rfl (by omega) ?cells (H.out.below ((Below.refl _ w).alloc (Nat.le_refl _) _))).mono ?_
  case cells => exact lit_ints w [65, 97, 32, 164, 192, 200, 228, 255, 163, 128, 130, 189] _
  rintro e w1 ⟨y, hy, rfl, hC, hG⟩
  have HC : Hd (Cursor w1 g ao len cap bs) := ⟨hC⟩
  have HG : Hd (w.grownBy w1 (some g)) := ⟨grown_of_alloc hG⟩
  clear hC hG hy
  obtain ⟨z, hz⟩ : ∃ z, bsN cs y = z := ⟨_, rfl⟩
  have HZ : Hd (bsN cs y = z) := ⟨hz⟩
  obtain ⟨ok, hok⟩ : ∃ ok, bsOk cs y = ok := ⟨_, rfl⟩
  have HK : Hd (bsOk cs y = ok) := ⟨hok⟩
  clear hz hok
  go_wp2_with fail
  refine (specByteSign_any cs y _).mono ?_
  rewrite [HZ.out, HK.out]
  rintro e w2 ⟨rfl, hB⟩
  have C2 : Hd (Cursor w2 g ao len cap bs) := ⟨HC.out.below hB⟩
  have G2 : Hd (w.grownBy w2 (some g)) := ⟨grown_next HG.out (grown_below hB _)⟩
  clear hB HC HG
  cases ok with
  | false =>
    have X1 : Hd (Fit cs 120) := ⟨fit_x cs HI.out⟩
    go_wp2_with fail
    go_ret
    exact ⟨120, rfl, X1.out, C2.out, G2.out⟩
  | true =>
    have X1 : Hd (Fit cs z) := ⟨by rw [← HZ.out]; exact fit_byte HI.out HK.out⟩
    go_wp2_with fail
    go_ret
    exact ⟨z, rfl, X1.out, C2.out, G2.out⟩

/-- A text that both the set and that of today have is drawn. -/
structure BothDrawn (cs : Int) (w : World) (g : Nat) (ao : Option Addr) (len cap : Nat) (bs : List UInt8) (e : Ending) (w' : World) : Prop where
  out : ∃ s : ByteArray, e = .returned (.string s) ∧ s.size ≤ 20 ∧ oOk cs s.data.toList = true ∧ oOk 0 s.data.toList = true ∧ Cursor w' g ao len cap bs ∧ w.grownBy w' (some g)
/-- Where the loop of l5Text stands. -/
structure FitAt (cs : Int) (w : World) (g : Nat) (ao : Option Addr) (len cap : Nat) (bs : List UInt8) (j q c n : Nat) (wr : World) : Prop where
  out : ∃ zs : List Int, (∀ z ∈ zs, Fit cs z) ∧ (zs.flatMap signB).length = n ∧ zs.length + j ≤ 5 ∧ w.heap.size ≤ q ∧ Own wr q c (zs.flatMap signB) ∧ Cursor wr g ao len cap bs ∧ w.grownBy wr (some g)
theorem fit_len (zs : List Int) : (zs.flatMap signB).length ≤ 4 * zs.length := by
  induction zs with
  | nil => simp
  | cons z r ih => have := signB_len z; rw [List.flatMap_cons, List.length_append, List.length_cons]; omega
set_option maxHeartbeats 1000000 in
theorem l5Text_fit (cs : Int) (hcs : inB cs 1 5 = true) (g : Nat) (ao : Option Addr) (len cap : Nat) (bs : List UInt8) (w : World) (hl : len ≤ 1073741824) (h : Cursor w g ao len cap bs) :
    Calls Tryz.prog 32 #[.pointer (some ⟨g, 0, none⟩), .int .i64 cs, .int .i64 5] w (BothDrawn cs w g ao len cap bs) := by
  have H : Hd (Cursor w g ao len cap bs) := ⟨h⟩
  have hlt := h.lt
  have HI : Hd (inB cs 1 5 = true ∧ inB cs 0 5 = true) := ⟨hcs, in_t ⟨by have : 1 ≤ cs ∧ cs ≤ 5 := of_decide_eq_true hcs; omega, by have : 1 ≤ cs ∧ cs ≤ 5 := of_decide_eq_true hcs; omega⟩⟩
  clear h hcs
  go_enter Tryz.func32, Tryz.ntmps32
  go_wp2_with fail
  refine (l1Below_any g ao len cap bs 6 _ hl (by omega) (by omega) (H.out.below ((Below.refl _ w).alloc (Nat.le_refl _) _))).mono ?_
  rintro e w1 ⟨x, hx, rfl, hC1, hG1⟩
  have T1 : Hd (FitAt cs w g ao len cap bs x w.heap.size 0 0 w1) := ⟨by
    have hO : Own (w.alloc (.cells #[] 5)) w.heap.size 0 [] := ⟨#[], heap_alloc_new w _, by simp, Nat.zero_le _, rfl, by simp⟩
    exact ⟨[], (fun z hz => by cases hz), rfl, by simp; omega, Nat.le_refl _, hO.grown hG1 (by omega), hC1, grown_of_alloc hG1⟩⟩
  clear hC1 hG1 H
  go_wp2_with fail
  go_loopw [7, 8] (fun v i wr => ∃ (j q c n : Nat), i = .int .i64 j ∧ v = .slice (some ⟨q, 0, none⟩) n c ∧ Hd (FitAt cs w g ao len cap bs j q c n wr)) (fun _ i _ => (intOf i).toNat)
  case atStart => exact ⟨x, w.heap.size, 0, 0, rfl, rfl, T1⟩
  case round =>
    clear T1
    obtain ⟨j, q, c, n, rfl, rfl, T⟩ := hrel
    have hj : n ≤ 20 ∧ j ≤ 5 := by obtain ⟨zs, _, h1, h2, _⟩ := T.out; have := fit_len zs; omega
    by_cases h0 : 0 < j
    · have hjI : (0 : Int) < (j : Int) := by omega
      have C1 : Hd (Cursor wr g ao len cap bs) := ⟨by obtain ⟨zs, _, _, _, _, _, h5, _⟩ := T.out; exact h5⟩
      go_wp2_with fail
      refine (l5Sign_fit cs HI.out.1 g ao len cap bs _ hl C1.out).mono ?_
      rintro e w2 ⟨z, rfl, hz, hC2, hG2⟩
      obtain ⟨zs, d0, d1, d2, d3, d4, d5, d6⟩ := T.out
      obtain ⟨ds, hds⟩ : ∃ ds, zs.flatMap signB = ds := ⟨_, rfl⟩
      have HD : Hd (zs.flatMap signB = ds) := ⟨hds⟩
      rw [hds] at d1 d4
      have O2 : Hd (Own w2 q c ds) := ⟨d4.grown hG2 (by omega)⟩
      have C2 : Hd (Cursor w2 g ao len cap bs) := ⟨hC2⟩
      have G2 : Hd (w.grownBy w2 (some g)) := ⟨grown_next d6 hG2⟩
      have D1 : Hd (ds.length = n) := ⟨d1⟩
      have D2 : Hd ((zs ++ [z]).length + (j - 1) ≤ 5 ∧ ∀ y ∈ zs ++ [z], Fit cs y) := ⟨by rw [List.length_append]; simp; omega, fun y hy => by
        rcases List.mem_append.1 hy with h | h
        · exact d0 y h
        · rw [List.mem_singleton.1 h]; exact hz⟩
      clear hC2 hG2 d0 d1 d2 d3 d4 d5 d6 T C1 hds hz
      go_wp2_with fail
      refine (specPutSign_some q 0 n c ds z _ D1.out (O2.out.cell D1.out) O2.out.lt (by omega)).mono ?_
      rintro e w3 ⟨q3, c3, rfl, hq3, hO3, hB3⟩
      have T3 : Hd (FitAt cs w g ao len cap bs (j - 1) q3 c3 (ds ++ signB z).length w3) := ⟨⟨zs ++ [z], D2.out.2, by rw [List.flatMap_append, HD.out]; simp, D2.out.1, by have := G2.out.size; omega, by rw [List.flatMap_append, HD.out]; simpa using hO3, C2.out.below hB3, grown_next G2.out (grown_below hB3 _)⟩⟩
      generalize (ds ++ signB z).length = n3 at *
      clear hq3 hO3 hB3 O2 C2 G2 D1 D2 HD
      go_wp2_with fail
      go_roundw
      case rel => exact ⟨j - 1, q3, c3, n3, by go_num, rfl, T3⟩
      case measure => simp [intOf]; omega
    · have hjI : ¬ (0 : Int) < (j : Int) := by omega
      obtain ⟨zs, d0, d1, d2, d3, d4, d5, d6⟩ := T.out
      have hcv := conv_owned (d4.owns d1 (Nat.le_refl q))
      have C2 : Hd (Cursor wr g ao len cap bs) := ⟨d5⟩
      have G2 : Hd (w.grownBy wr (some g)) := ⟨d6⟩
      obtain ⟨f1, f2⟩ := fits_both HI.out.2 d0 (by omega)
      have Hs : Hd ((⟨(zs.flatMap signB).toArray⟩ : ByteArray).size ≤ 20 ∧ oOk cs (⟨(zs.flatMap signB).toArray⟩ : ByteArray).data.toList = true ∧ oOk 0 (⟨(zs.flatMap signB).toArray⟩ : ByteArray).data.toList = true) := ⟨by show (zs.flatMap signB).toArray.size ≤ _; rw [List.size_toArray]; omega, f1, f2⟩
      clear d0 d1 d2 d3 d4 d5 d6 T f1 f2
      generalize (zs.flatMap signB).toArray = S at *
      go_wp2_with fail
      go_ret
      exact ⟨_, rfl, Hs.out.1, Hs.out.2.1, Hs.out.2.2, C2.out, G2.out⟩

/-- A row is drawn, in new memory, and the cursor goes on. -/
structure RowMade (w : World) (g : Nat) (ao : Option Addr) (len cap : Nat) (bs : List UInt8) (r : RowD) (e : Ending) (w' : World) : Prop where
  out : ∃ a1 n1 c1 a2 n2 c2, e = .returned (.agg #[.string r.key, .int .i64 r.t1, .slice a1 n1 c1, .int .i64 r.t2, .slice a2 n2 c2, .int .i64 r.has, .bool r.aside]) ∧ r.b1.length = n1 ∧ n1 ≤ 81 ∧ r.b2.length = n2 ∧ n2 ≤ 81 ∧ r.key.size ≤ 7 ∧ OwnO w' w.heap.size a1 c1 r.b1 ∧ OwnO w' w.heap.size a2 c2 r.b2 ∧ Cursor w' g ao len cap bs ∧ w.grownBy w' (some g)
theorem RowMade.at_ {w : World} {g : Nat} {ao : Option Addr} {len cap : Nat} {bs : List UInt8} {k : ByteArray} {t1 : Int} {b1 : List UInt8} {t2 : Int} {b2 : List UInt8} {has : Int} {asd : Bool} {e : Ending} {w' : World} (h : RowMade w g ao len cap bs ⟨k, t1, b1, t2, b2, has, asd⟩ e w') :
    ∃ a1 n1 c1 a2 n2 c2, e = .returned (.agg #[.string k, .int .i64 t1, .slice a1 n1 c1, .int .i64 t2, .slice a2 n2 c2, .int .i64 has, .bool asd]) ∧ b1.length = n1 ∧ n1 ≤ 81 ∧ b2.length = n2 ∧ n2 ≤ 81 ∧ k.size ≤ 7 ∧ OwnO w' w.heap.size a1 c1 b1 ∧ OwnO w' w.heap.size a2 c2 b2 ∧ Cursor w' g ao len cap bs ∧ w.grownBy w' (some g) := h.out
/-- Any row; one that is right. -/
structure RowDrawn (w : World) (g : Nat) (ao : Option Addr) (len cap : Nat) (bs : List UInt8) (e : Ending) (w' : World) : Prop where
  out : ∃ r : RowD, ∃ a1 n1 c1 a2 n2 c2, e = .returned (.agg #[.string r.key, .int .i64 r.t1, .slice a1 n1 c1, .int .i64 r.t2, .slice a2 n2 c2, .int .i64 r.has, .bool r.aside]) ∧ r.b1.length = n1 ∧ n1 ≤ 81 ∧ r.b2.length = n2 ∧ n2 ≤ 81 ∧ r.key.size ≤ 7 ∧ OwnO w' w.heap.size a1 c1 r.b1 ∧ OwnO w' w.heap.size a2 c2 r.b2 ∧ Cursor w' g ao len cap bs ∧ w.grownBy w' (some g)
structure RightDrawn (w : World) (g : Nat) (ao : Option Addr) (len cap : Nat) (bs : List UInt8) (e : Ending) (w' : World) : Prop where
  out : ∃ r : RowD, rOk r = true ∧ RowMade w g ao len cap bs r e w'
/-- A row is drawn of a code. -/
structure RowGot (w : World) (e : Ending) (w' : World) : Prop where
  out : ∃ r : RowD, ∃ a1 n1 c1 a2 n2 c2, e = .returned (.agg #[.string r.key, .int .i64 r.t1, .slice a1 n1 c1, .int .i64 r.t2, .slice a2 n2 c2, .int .i64 r.has, .bool r.aside]) ∧ r.b1.length = n1 ∧ n1 ≤ 81 ∧ r.b2.length = n2 ∧ n2 ≤ 81 ∧ r.key.size ≤ 7 ∧ CellAt w' a1 n1 c1 r.b1 ∧ CellAt w' a2 n2 c2 r.b2 ∧ Below w.heap.size w w'
structure RightGot (w : World) (e : Ending) (w' : World) : Prop where
  out : ∃ r : RowD, rOk r = true ∧ ∃ a1 n1 c1 a2 n2 c2, e = .returned (.agg #[.string r.key, .int .i64 r.t1, .slice a1 n1 c1, .int .i64 r.t2, .slice a2 n2 c2, .int .i64 r.has, .bool r.aside]) ∧ r.b1.length = n1 ∧ n1 ≤ 81 ∧ r.b2.length = n2 ∧ n2 ≤ 81 ∧ r.key.size ≤ 7 ∧ CellAt w' a1 n1 c1 r.b1 ∧ CellAt w' a2 n2 c2 r.b2 ∧ Below w.heap.size w w'

/-- While a row is drawn: the cursor and the result's box. -/
structure LR (w : World) (g : Nat) (ao : Option Addr) (len cap : Nat) (bs : List UInt8) (wi : World) : Prop where
  cur : Cursor wi g ao len cap bs
  gr : w.grownBy wi (some g)
  lt : g < w.heap.size
  b2 : wi.heap[w.heap.size]? = some (.cells #[.string ⟨#[]⟩, .int .i64 0, .slice none 0 0, .int .i64 0, .slice none 0 0, .int .i64 0, .bool false] 29 (0, 0))
/-- The drawn row's own box. -/
structure KR (w : World) (d : Nat) (k : ByteArray) (t1 : Int) (a1 : Option Addr) (n1 c1 : Nat) (b1 : List UInt8) (t2 : Int) (a2 : Option Addr) (n2 c2 : Nat) (b2 : List UInt8) (has : Int) (asd : Bool) (wi : World) : Prop where
  box : wi.heap[d]? = some (.cells #[.string k, .int .i64 t1, .slice a1 n1 c1, .int .i64 t2, .slice a2 n2 c2, .int .i64 has, .bool asd] 29 (0, 0))
  own1 : OwnO wi (w.heap.size + 1) a1 c1 b1
  own2 : OwnO wi (w.heap.size + 1) a2 c2 b2
  l1 : b1.length = n1
  l2 : b2.length = n2
  m1 : n1 ≤ 81
  m2 : n2 ≤ 81
  wd : w.heap.size < d
  f1 : ∀ q, a1 = some ⟨q, 0, none⟩ → q ≠ d
  f2 : ∀ q, a2 = some ⟨q, 0, none⟩ → q ≠ d
theorem own_grown {w w' : World} {B c q : Nat} {ao : Option Addr} {bs : List UInt8} (h : OwnO w B ao c bs) (hG : w.grownBy w' (some q)) (hk : q < B) : OwnO w' B ao c bs := by
  rcases h with h | ⟨p, rfl, h1, hO⟩
  · exact .inl h
  · exact .inr ⟨p, rfl, h1, hO.grown hG (by omega)⟩
theorem own_set7 {w : World} {B q c : Nat} {x0 x1 x2 x3 x4 x5 x6 : Value} {ao : Option Addr} {bs : List UInt8} (h : OwnO w B ao c bs) (hq : q < B) :
    OwnO (((((((w.setCell ⟨q, 0, none⟩ x0).setCell ⟨q, 1, none⟩ x1).setCell ⟨q, 2, none⟩ x2).setCell ⟨q, 3, none⟩ x3).setCell ⟨q, 4, none⟩ x4).setCell ⟨q, 5, none⟩ x5).setCell ⟨q, 6, none⟩ x6) B ao c bs :=
  ((((((h.of_set hq).of_set hq).of_set hq).of_set hq).of_set hq).of_set hq).of_set hq
theorem own_far7 {w : World} {B q c : Nat} {x0 x1 x2 x3 x4 x5 x6 : Value} {ao : Option Addr} {bs : List UInt8} (h : OwnO w B ao c bs) (hq : ∀ g, ao = some ⟨g, 0, none⟩ → g ≠ q) :
    OwnO (((((((w.setCell ⟨q, 0, none⟩ x0).setCell ⟨q, 1, none⟩ x1).setCell ⟨q, 2, none⟩ x2).setCell ⟨q, 3, none⟩ x3).setCell ⟨q, 4, none⟩ x4).setCell ⟨q, 5, none⟩ x5).setCell ⟨q, 6, none⟩ x6) B ao c bs :=
  ownO_far (ownO_far (ownO_far (ownO_far (ownO_far (ownO_far (ownO_far h hq) hq) hq) hq) hq) hq) hq
theorem fill_81 {r : RowD} (h1 : r.b1.length ≤ 81) (h2 : r.b2.length ≤ 81) : (fillR r).b1.length ≤ 81 ∧ (fillR r).b2.length ≤ 81 := by
  unfold fillR
  split
  · exact ⟨h1, h2⟩
  · split
    · exact ⟨h1, by have := nB_len r.t1 0 r.b1; show (nB r.t1 r.b1 0).length ≤ _; omega⟩
    · exact ⟨h1, h2⟩
theorem back_81 {r : RowD} (h1 : r.b1.length ≤ 81) (h2 : r.b2.length ≤ 81) : (backR r).b1.length ≤ 81 ∧ (backR r).b2.length ≤ 81 := by
  unfold backR
  split
  · exact ⟨h1, h2⟩
  · split
    · exact ⟨h1, by show (0 : Nat) ≤ _; omega⟩
    · exact ⟨h1, h2⟩
section
variable {w : World} {g : Nat} {ao : Option Addr} {len cap : Nat} {bs : List UInt8} {wi wj : World} {d : Nat} {k : ByteArray} {t1 : Int} {a1 : Option Addr} {n1 c1 : Nat} {b1 : List UInt8} {t2 : Int} {a2 : Option Addr} {n2 c2 : Nat} {b2 : List UInt8} {has : Int} {asd : Bool}
theorem LR.below (h : LR w g ao len cap bs wi) (hB : Below wi.heap.size wi wj) : LR w g ao len cap bs wj :=
  ⟨h.cur.below hB, grown_next h.gr (grown_below hB _), h.lt, (hB.block _ (lt_of_block h.b2)).trans h.b2⟩
theorem LR.grown (h : LR w g ao len cap bs wi) (hC : Cursor wj g ao len cap bs) (hG : wi.grownBy wj (some g)) : LR w g ao len cap bs wj :=
  ⟨hC, grown_next h.gr hG, h.lt, grown_block hG h.b2 (by have := h.lt; omega)⟩
theorem LR.size (h : LR w g ao len cap bs wi) : w.heap.size + 1 ≤ wi.heap.size := lt_of_block h.b2
theorem lr_first (h : Cursor w g ao len cap bs) : LR w g ao len cap bs (w.alloc (.cells #[.string ⟨#[]⟩, .int .i64 0, .slice none 0 0, .int .i64 0, .slice none 0 0, .int .i64 0, .bool false] 29)) :=
  ⟨h.below (below_lit w _), grown_below (below_lit w _) _, h.lt, alloc_new w _ rfl⟩
theorem LR.set (h : LR w g ao len cap bs wi) (d j : Nat) (v : Value) (hd : w.heap.size < d) : LR w g ao len cap bs (wi.setCell ⟨d, j, none⟩ v) := by
  have hl := h.lt
  have hk : ∀ k, k ≤ w.heap.size → (wi.setCell ⟨d, j, none⟩ v).heap[k]? = wi.heap[k]? := fun k hk => block_set rfl (by omega)
  refine ⟨h.cur.kept (fun k hk' => hk k (by omega)), ?_, h.lt, (hk _ (Nat.le_refl _)).trans h.b2⟩
  exact ⟨h.gr.os, h.gr.tape, h.gr.output, by simpa using h.gr.size, fun k hk1 hk2 => (hk k (by omega)).trans (h.gr.block k hk1 hk2)⟩
theorem LR.set7 {x0 x1 x2 x3 x4 x5 x6 : Value} (h : LR w g ao len cap bs wi) (hd : w.heap.size < d) :
    LR w g ao len cap bs (((((((wi.setCell ⟨d, 0, none⟩ x0).setCell ⟨d, 1, none⟩ x1).setCell ⟨d, 2, none⟩ x2).setCell ⟨d, 3, none⟩ x3).setCell ⟨d, 4, none⟩ x4).setCell ⟨d, 5, none⟩ x5).setCell ⟨d, 6, none⟩ x6) :=
  ((((((h.set d 0 _ hd).set d 1 _ hd).set d 2 _ hd).set d 3 _ hd).set d 4 _ hd).set d 5 _ hd).set d 6 _ hd
theorem cur_set {q j : Nat} {v : Value} (h : Cursor wi g ao len cap bs) (hq : g < q) : Cursor (wi.setCell ⟨q, j, none⟩ v) g ao len cap bs := h.kept (fun k hk' => block_set rfl (by omega))
theorem cur_set7 {q : Nat} {x0 x1 x2 x3 x4 x5 x6 : Value} (h : Cursor wi g ao len cap bs) (hq : g < q) :
    Cursor (((((((wi.setCell ⟨q, 0, none⟩ x0).setCell ⟨q, 1, none⟩ x1).setCell ⟨q, 2, none⟩ x2).setCell ⟨q, 3, none⟩ x3).setCell ⟨q, 4, none⟩ x4).setCell ⟨q, 5, none⟩ x5).setCell ⟨q, 6, none⟩ x6) g ao len cap bs :=
  cur_set (cur_set (cur_set (cur_set (cur_set (cur_set (cur_set h hq) hq) hq) hq) hq) hq) hq
theorem grown_setn {q j : Nat} {v : Value} (h : w.grownBy wi (some g)) (hq : w.heap.size ≤ q) : w.grownBy (wi.setCell ⟨q, j, none⟩ v) (some g) :=
  ⟨h.os, h.tape, h.output, by simpa using h.size, fun k h1 h2 => (block_set rfl (by omega)).trans (h.block k h1 h2)⟩
theorem grown_set7 {q : Nat} {x0 x1 x2 x3 x4 x5 x6 : Value} (h : w.grownBy wi (some g)) (hq : w.heap.size ≤ q) :
    w.grownBy (((((((wi.setCell ⟨q, 0, none⟩ x0).setCell ⟨q, 1, none⟩ x1).setCell ⟨q, 2, none⟩ x2).setCell ⟨q, 3, none⟩ x3).setCell ⟨q, 4, none⟩ x4).setCell ⟨q, 5, none⟩ x5).setCell ⟨q, 6, none⟩ x6) (some g) :=
  grown_setn (grown_setn (grown_setn (grown_setn (grown_setn (grown_setn (grown_setn h hq) hq) hq) hq) hq) hq) hq
/-- The result's box is filled: the row is handed back. -/
theorem LR.done (h : LR w g ao len cap bs wi) (hn1 : b1.length = n1) (hm1 : n1 ≤ 81) (hn2 : b2.length = n2) (hm2 : n2 ≤ 81) (hks : k.size ≤ 7) (hO1 : OwnO wi (w.heap.size + 1) a1 c1 b1) (hO2 : OwnO wi (w.heap.size + 1) a2 c2 b2) :
    RowMade w g ao len cap bs ⟨k, t1, b1, t2, b2, has, asd⟩ (.returned (.agg #[.string k, .int .i64 t1, .slice a1 n1 c1, .int .i64 t2, .slice a2 n2 c2, .int .i64 has, .bool asd]))
      (((((((wi.setCell ⟨w.heap.size, 0, none⟩ (.string k)).setCell ⟨w.heap.size, 1, none⟩ (.int .i64 t1)).setCell ⟨w.heap.size, 2, none⟩ (.slice a1 n1 c1)).setCell ⟨w.heap.size, 3, none⟩ (.int .i64 t2)).setCell ⟨w.heap.size, 4, none⟩ (.slice a2 n2 c2)).setCell ⟨w.heap.size, 5, none⟩ (.int .i64 has)).setCell ⟨w.heap.size, 6, none⟩ (.bool asd)) := by
  have hl := h.lt
  exact ⟨a1, n1, c1, a2, n2, c2, rfl, hn1, hm1, hn2, hm2, hks, (own_set7 hO1 (by omega)).mono (by omega), (own_set7 hO2 (by omega)).mono (by omega), cur_set7 h.cur hl, grown_set7 h.gr (Nat.le_refl _)⟩
theorem LR.drawn (h : LR w g ao len cap bs wi) (hn1 : b1.length = n1) (hm1 : n1 ≤ 81) (hn2 : b2.length = n2) (hm2 : n2 ≤ 81) (hks : k.size ≤ 7) (hO1 : OwnO wi (w.heap.size + 1) a1 c1 b1) (hO2 : OwnO wi (w.heap.size + 1) a2 c2 b2) :
    RowDrawn w g ao len cap bs (.returned (.agg #[.string k, .int .i64 t1, .slice a1 n1 c1, .int .i64 t2, .slice a2 n2 c2, .int .i64 has, .bool asd]))
      (((((((wi.setCell ⟨w.heap.size, 0, none⟩ (.string k)).setCell ⟨w.heap.size, 1, none⟩ (.int .i64 t1)).setCell ⟨w.heap.size, 2, none⟩ (.slice a1 n1 c1)).setCell ⟨w.heap.size, 3, none⟩ (.int .i64 t2)).setCell ⟨w.heap.size, 4, none⟩ (.slice a2 n2 c2)).setCell ⟨w.heap.size, 5, none⟩ (.int .i64 has)).setCell ⟨w.heap.size, 6, none⟩ (.bool asd)) :=
  ⟨⟨k, t1, b1, t2, b2, has, asd⟩, (h.done (t1 := t1) (t2 := t2) (has := has) (asd := asd) hn1 hm1 hn2 hm2 hks hO1 hO2).out⟩
theorem KR.below (h : KR w d k t1 a1 n1 c1 b1 t2 a2 n2 c2 b2 has asd wi) (hB : Below wi.heap.size wi wj) : KR w d k t1 a1 n1 c1 b1 t2 a2 n2 c2 b2 has asd wj :=
  ⟨(hB.block _ (lt_of_block h.box)).trans h.box, h.own1.below hB, h.own2.below hB, h.l1, h.l2, h.m1, h.m2, h.wd, h.f1, h.f2⟩
theorem KR.grown (h : KR w d k t1 a1 n1 c1 b1 t2 a2 n2 c2 b2 has asd wi) (hG : wi.grownBy wj (some g)) (hg : g < w.heap.size) : KR w d k t1 a1 n1 c1 b1 t2 a2 n2 c2 b2 has asd wj :=
  ⟨grown_block hG h.box (by have := h.wd; omega), own_grown h.own1 hG (by omega), own_grown h.own2 hG (by omega), h.l1, h.l2, h.m1, h.m2, h.wd, h.f1, h.f2⟩
theorem KR.s1 (h : KR w d k t1 a1 n1 c1 b1 t2 a2 n2 c2 b2 has asd wi) : b1.length ≤ 81 := by rw [h.l1]; exact h.m1
theorem KR.s2 (h : KR w d k t1 a1 n1 c1 b1 t2 a2 n2 c2 b2 has asd wi) : b2.length ≤ 81 := by rw [h.l2]; exact h.m2
theorem KR.at1 (h : KR w d k t1 a1 n1 c1 b1 t2 a2 n2 c2 b2 has asd wi) : CellAt wi a1 n1 c1 b1 := h.own1.at_ h.l1
theorem KR.at2 (h : KR w d k t1 a1 n1 c1 b1 t2 a2 n2 c2 b2 has asd wi) : CellAt wi a2 n2 c2 b2 := h.own2.at_ h.l2
theorem kr_own (hO1 : OwnO wi (w.heap.size + 1) a1 c1 b1) (hO2 : OwnO wi (w.heap.size + 1) a2 c2 b2) (hn1 : b1.length = n1) (hm1 : n1 ≤ 81) (hn2 : b2.length = n2) (hm2 : n2 ≤ 81) (hs : w.heap.size + 1 ≤ wi.heap.size) :
    KR w wi.heap.size k t1 a1 n1 c1 b1 t2 a2 n2 c2 b2 has asd (wi.alloc (.cells #[.string k, .int .i64 t1, .slice a1 n1 c1, .int .i64 t2, .slice a2 n2 c2, .int .i64 has, .bool asd] 29)) :=
  ⟨alloc_new wi _ rfl, hO1.below (below_lit wi _), hO2.below (below_lit wi _), hn1, hn2, hm1, hm2, by omega, fun q hq => by have := ownO_lt hO1 hq; omega, fun q hq => by have := ownO_lt hO2 hq; omega⟩
theorem kr_new {B : Nat} (hA : Apart wi B a1 c1 b1 a2 c2 b2) (hn1 : b1.length = n1) (hm1 : n1 ≤ 81) (hn2 : b2.length = n2) (hm2 : n2 ≤ 81) (hs : w.heap.size + 1 ≤ wi.heap.size) (hB : w.heap.size + 1 ≤ B) :
    KR w wi.heap.size k t1 a1 n1 c1 b1 t2 a2 n2 c2 b2 has asd (wi.alloc (.cells #[.string k, .int .i64 t1, .slice a1 n1 c1, .int .i64 t2, .slice a2 n2 c2, .int .i64 has, .bool asd] 29)) := kr_own (hA.one.mono hB) (hA.two.mono hB) hn1 hm1 hn2 hm2 hs
theorem KR.setKey (h : KR w d k t1 a1 n1 c1 b1 t2 a2 n2 c2 b2 has asd wi) (s : ByteArray) : KR w d s t1 a1 n1 c1 b1 t2 a2 n2 c2 b2 has asd (wi.setCell ⟨d, 0, none⟩ (.string s)) :=
  ⟨by rw [set_at _ h.box]; simp, ownO_far h.own1 h.f1, ownO_far h.own2 h.f2, h.l1, h.l2, h.m1, h.m2, h.wd, h.f1, h.f2⟩
theorem KR.setHas (h : KR w d k t1 a1 n1 c1 b1 t2 a2 n2 c2 b2 has asd wi) (z : Int) : KR w d k t1 a1 n1 c1 b1 t2 a2 n2 c2 b2 z asd (wi.setCell ⟨d, 5, none⟩ (.int .i64 z)) :=
  ⟨by rw [set_at _ h.box]; simp, ownO_far h.own1 h.f1, ownO_far h.own2 h.f2, h.l1, h.l2, h.m1, h.m2, h.wd, h.f1, h.f2⟩
theorem KR.setAside (h : KR w d k t1 a1 n1 c1 b1 t2 a2 n2 c2 b2 has asd wi) (z : Bool) : KR w d k t1 a1 n1 c1 b1 t2 a2 n2 c2 b2 has z (wi.setCell ⟨d, 6, none⟩ (.bool z)) :=
  ⟨by rw [set_at _ h.box]; simp, ownO_far h.own1 h.f1, ownO_far h.own2 h.f2, h.l1, h.l2, h.m1, h.m2, h.wd, h.f1, h.f2⟩
theorem KR.setT1 (h : KR w d k t1 a1 n1 c1 b1 t2 a2 n2 c2 b2 has asd wi) (z : Int) : KR w d k z a1 n1 c1 b1 t2 a2 n2 c2 b2 has asd (wi.setCell ⟨d, 1, none⟩ (.int .i64 z)) :=
  ⟨by rw [set_at _ h.box]; simp, ownO_far h.own1 h.f1, ownO_far h.own2 h.f2, h.l1, h.l2, h.m1, h.m2, h.wd, h.f1, h.f2⟩
theorem KR.setT2 (h : KR w d k t1 a1 n1 c1 b1 t2 a2 n2 c2 b2 has asd wi) (z : Int) : KR w d k t1 a1 n1 c1 b1 z a2 n2 c2 b2 has asd (wi.setCell ⟨d, 3, none⟩ (.int .i64 z)) :=
  ⟨by rw [set_at _ h.box]; simp, ownO_far h.own1 h.f1, ownO_far h.own2 h.f2, h.l1, h.l2, h.m1, h.m2, h.wd, h.f1, h.f2⟩
theorem KR.setB1 {a : Option Addr} {n c : Nat} {ds : List UInt8} (h : KR w d k t1 a1 n1 c1 b1 t2 a2 n2 c2 b2 has asd wi) (hO : OwnO (wi.setCell ⟨d, 2, none⟩ (.slice a n c)) (w.heap.size + 1) a c ds) (hn : ds.length = n) (hm : n ≤ 81) (hf : ∀ q, a = some ⟨q, 0, none⟩ → q ≠ d) :
    KR w d k t1 a n c ds t2 a2 n2 c2 b2 has asd (wi.setCell ⟨d, 2, none⟩ (.slice a n c)) :=
  ⟨by rw [set_at _ h.box]; simp, hO, ownO_far h.own2 h.f2, hn, h.l2, hm, h.m2, h.wd, hf, h.f2⟩
theorem KR.setB2 {a : Option Addr} {n c : Nat} {ds : List UInt8} (h : KR w d k t1 a1 n1 c1 b1 t2 a2 n2 c2 b2 has asd wi) (hO : OwnO (wi.setCell ⟨d, 4, none⟩ (.slice a n c)) (w.heap.size + 1) a c ds) (hn : ds.length = n) (hm : n ≤ 81) (hf : ∀ q, a = some ⟨q, 0, none⟩ → q ≠ d) :
    KR w d k t1 a1 n1 c1 b1 t2 a n c ds has asd (wi.setCell ⟨d, 4, none⟩ (.slice a n c)) :=
  ⟨by rw [set_at _ h.box]; simp, ownO_far h.own1 h.f1, hO, h.l1, hn, h.m1, hm, h.wd, h.f1, hf⟩
/-- The whole box is written. -/
theorem KR.fill {B : Nat} {k' : ByteArray} {t1' : Int} {a1' : Option Addr} {n1' c1' : Nat} {b1' : List UInt8} {t2' : Int} {a2' : Option Addr} {n2' c2' : Nat} {b2' : List UInt8} {has' : Int} {asd' : Bool}
    (h : KR w d k t1 a1 n1 c1 b1 t2 a2 n2 c2 b2 has asd wi) (hA : Apart wi B a1' c1' b1' a2' c2' b2') (hB : w.heap.size + 1 ≤ B) (hd : d < B) (hn1 : b1'.length = n1') (hm1 : n1' ≤ 81) (hn2 : b2'.length = n2') (hm2 : n2' ≤ 81) :
    KR w d k' t1' a1' n1' c1' b1' t2' a2' n2' c2' b2' has' asd' (((((((wi.setCell ⟨d, 0, none⟩ (.string k')).setCell ⟨d, 1, none⟩ (.int .i64 t1')).setCell ⟨d, 2, none⟩ (.slice a1' n1' c1')).setCell ⟨d, 3, none⟩ (.int .i64 t2')).setCell ⟨d, 4, none⟩ (.slice a2' n2' c2')).setCell ⟨d, 5, none⟩ (.int .i64 has')).setCell ⟨d, 6, none⟩ (.bool asd')) := by
  have f1 : ∀ q, a1' = some ⟨q, 0, none⟩ → q ≠ d := fun q hq => by have := ownO_ge hA.one hq; omega
  have f2 : ∀ q, a2' = some ⟨q, 0, none⟩ → q ≠ d := fun q hq => by have := ownO_ge hA.two hq; omega
  exact ⟨Go.Proofs.YtpafjehphajbhaaGreatDoor.set7 _ _ _ _ _ _ _ h.box, (own_far7 hA.one f1).mono hB, (own_far7 hA.two f2).mono hB, hn1, hn2, hm1, hm2, h.wd, f1, f2⟩
end

set_option maxHeartbeats 4000000 in
theorem l9Draw_any (g : Nat) (ao : Option Addr) (len cap : Nat) (bs : List UInt8) (w : World) (hl : len ≤ 1073741824) (h : Cursor w g ao len cap bs) :
    Calls Tryz.prog 47 #[.pointer (some ⟨g, 0, none⟩)] w (RightDrawn w g ao len cap bs) := by
  have L0 : Hd (LR w g ao len cap bs (w.alloc (.cells #[.string ⟨#[]⟩, .int .i64 0, .slice none 0 0, .int .i64 0, .slice none 0 0, .int .i64 0, .bool false] 29))) := ⟨lr_first h⟩
  clear h
  go_enter Tryz.func47, Tryz.ntmps47
  go_wp2_with fail
  refine (l3Cs_any g ao len cap bs _ hl L0.out.cur).mono ?_
  rintro e w1 ⟨z, rfl, hz, hC, hG⟩
  have L1 : Hd (LR w g ao len cap bs w1) := ⟨L0.out.grown hC hG⟩
  have HZ : Hd (inB z 1 5 = true) := ⟨hz⟩
  clear hz
  clear hC hG L0 
  go_wp2_with fail
  refine (l1Name_any g ao len cap bs _ hl L1.out.cur).mono ?_
  rintro e w2 ⟨key, rfl, hk, hks, hC, hG⟩
  have L2 : Hd (LR w g ao len cap bs w2) := ⟨L1.out.grown hC hG⟩
  have HK : Hd (nameOkB key = true ∧ key.size ≤ 7) := ⟨hk, hks⟩
  clear hk hks
  clear hC hG L1 
  go_wp2_with fail
  refine (l1Below_any g ao len cap bs 6 _ hl (by omega) (by omega) L2.out.cur).mono ?_
  rintro e w3 ⟨x, hx, rfl, hC, hG⟩
  have L3 : Hd (LR w g ao len cap bs w3) := ⟨L2.out.grown hC hG⟩
  clear hC hG L2 
  by_cases x0 : x = 0
  · subst x0
    have L4 : Hd (LR w g ao len cap bs (w3.alloc (.cells #[.int .u8 128, .int .u8 65] 5))) := ⟨L3.out.below (below_lit w3 _)⟩
    have O4 : Hd (Own (w3.alloc (.cells #[.int .u8 128, .int .u8 65] 5)) w3.heap.size 2 [128, 65]) := ⟨⟨_, heap_alloc_new w3 _, by simp, by unfold maxLen; omega, rfl, by simp [cb]⟩⟩
    have Q4 : Hd (w.heap.size + 1 ≤ w3.heap.size) := ⟨L3.out.size⟩
    obtain ⟨r0, r1, r2, r3, r4, r5, r6⟩ := cells7 _ w.heap.size _ _ _ _ _ _ _ _ L4.out.b2
    obtain ⟨s0, s1, s2, s3, s4, s5, s6⟩ := free7 _ w.heap.size _ _ _ _ _ _ _ _ L4.out.b2
    go_wp2_with fail
    refine bodyPost_ret (results_cell_row rfl _ _ w.heap.size _ _ (0, 0) _ rfl (set7 _ _ _ _ _ _ _ L4.out.b2) Tryz.underlying29 rfl (by kernel_rfl)) rfl ?_
    exact ⟨⟨key, 3, [128, 65], 0, [], 1, true⟩, by rw [rOk_old, HK.out.1]; rfl, L4.out.done rfl (by omega) rfl (by omega) HK.out.2 (.inr ⟨w3.heap.size, rfl, Q4.out, O4.out⟩) (.inl ⟨rfl, rfl, rfl⟩)⟩
  by_cases x1 : x = 1
  · subst x1
    go_wp2_with fail
    refine (l5Text_fit z HZ.out g ao len cap bs _ hl L3.out.cur).mono ?_
    rintro e w4 ⟨s, rfl, hs, ho, hu, hC, hG⟩
    have L4 : Hd (LR w g ao len cap bs w4) := ⟨L3.out.grown hC hG⟩
    have HS : Hd (s.size ≤ 20 ∧ oOk z s.data.toList = true ∧ oOk 0 s.data.toList = true) := ⟨hs, ho, hu⟩
    clear hs ho hu
    clear hC hG L3 
    have HF : Hd (formB 0 key z s.data.toList = true) := ⟨by unfold formB; rw [HK.out.1, HZ.out, HS.out.2.2]; rfl⟩
    obtain ⟨xo, hxo⟩ : ∃ x, encS z s.data.toList = x := ⟨_, rfl⟩
    have HR : Hd (rowV 0 key z s.data.toList = ⟨key, z, xo, 0, [], 1, false⟩) := ⟨(rowV_old HF.out (by omega) HS.out.2.1 hxo).1⟩
    have HC : Hd (rowC 0 key z s.data.toList = 0) := ⟨(rowV_old HF.out (by omega) HS.out.2.1 hxo).2⟩
    have HM : Hd (xo.length ≤ 81) := ⟨by have h9 := (rowV_len 0 key z s.data.toList).1; rw [HR.out] at h9; exact Nat.le_trans h9 (by omega)⟩
    have HW : Hd (rOk ⟨key, z, xo, 0, [], 1, false⟩ = true) := ⟨by rw [← HR.out]; exact (wrote HC.out).1⟩
    clear hxo
    go_wp2_with fail
    refine (specRowOf_any 0 key z s _ (by have := HK.out.2; omega) (by have := HS.out.1; omega)).mono ?_
    rewrite [HR.out, HC.out]
    rintro e w5 h9
    obtain ⟨a1, n1, c1, a2, n2, c2, rfl, hn1, hn2, hA, hsz, hB⟩ := h9.at_
    have L5 : Hd (LR w g ao len cap bs (w5.alloc (.cells #[.string key, .int .i64 z, .slice a1 n1 c1, .int .i64 0, .slice a2 n2 c2, .int .i64 1, .bool false] 29))) := ⟨(L4.out.below hB).below (below_lit w5 _)⟩
    have A5 : Hd (Apart (w5.alloc (.cells #[.string key, .int .i64 z, .slice a1 n1 c1, .int .i64 0, .slice a2 n2 c2, .int .i64 1, .bool false] 29)) (w.heap.size + 1) a1 c1 xo a2 c2 []) := ⟨(hA.below (below_lit w5 _)).mono (by have := L4.out.size; omega)⟩
    have N5 : Hd (xo.length = n1 ∧ ([] : List UInt8).length = n2) := ⟨hn1, hn2⟩
    obtain ⟨p0, p1, p2, p3, p4, p5, p6⟩ := cells7 (w5.alloc (.cells #[.string key, .int .i64 z, .slice a1 n1 c1, .int .i64 0, .slice a2 n2 c2, .int .i64 1, .bool false] 29)) w5.heap.size _ _ _ _ _ _ _ _ (alloc_new w5 _ rfl)
    have hne : ¬ w.heap.size = w5.heap.size := by have := L4.out.size; have := hB.size; omega
    generalize hd : w5.heap.size = d at *
    clear h9 hn1 hn2 hA hsz hB L4
    obtain ⟨r0, r1, r2, r3, r4, r5, r6⟩ := cells7 _ w.heap.size _ _ _ _ _ _ _ _ L5.out.b2
    obtain ⟨s0, s1, s2, s3, s4, s5, s6⟩ := free7 _ w.heap.size _ _ _ _ _ _ _ _ L5.out.b2
    go_wp2_with fail
    refine bodyPost_ret (results_cell_row rfl _ _ w.heap.size _ _ (0, 0) _ rfl (set7 _ _ _ _ _ _ _ L5.out.b2) Tryz.underlying29 rfl (by kernel_rfl)) rfl ?_
    exact ⟨_, HW.out, L5.out.done N5.out.1 (by have := HM.out; have := N5.out.1; omega) N5.out.2 (by have := N5.out.2; simp at this; omega) HK.out.2 A5.out.one A5.out.two⟩
  have e0 : ((x : Int) == 0) = false := by simp; omega
  have e1 : ((x : Int) == 1) = false := by simp; omega
  clear x0 x1 hx
  go_wp2_with fail
  refine (l1Below_any g ao len cap bs 8 _ hl (by omega) (by omega) L3.out.cur).mono ?_
  rintro e w4 ⟨y, hy, rfl, hC, hG⟩
  have L4 : Hd (LR w g ao len cap bs w4) := ⟨L3.out.grown hC hG⟩
  clear hC hG L3 
  go_wp2_with fail
  refine (l1Int_any g w4.heap.size 4 4 ao len cap bs [z, z, z, 0] _ hl (by omega) (by omega) rfl (by have := L4.out.cur.lt; omega) ?cells (L4.out.cur.below (below_lit w4 _))).mono ?_
  case cells => exact lit_ints w4 [z, z, z, 0] _
  rintro e w5 ⟨zi, _, rfl, hC, hG⟩
  have L5 : Hd (LR w g ao len cap bs w5) := ⟨(L4.out.below (below_lit w4 _)).grown hC hG⟩
  clear hC hG L4
  go_wp2_with fail
  refine (l5Text_any zi g ao len cap bs 5 _ hl (by omega) L5.out.cur).mono ?_
  rintro e w6 ⟨s, rfl, hs, hC, hG⟩
  have L6 : Hd (LR w g ao len cap bs w6) := ⟨L5.out.grown hC hG⟩
  have HS : Hd (s.size ≤ 20) := ⟨by omega⟩
  clear hs
  clear hC hG L5 
  have hln := rowV_len (y : Int) key z s.data.toList
  obtain ⟨cd, hcd⟩ : ∃ x, rowC (y : Int) key z s.data.toList = x := ⟨_, rfl⟩
  have HCD : Hd (rowC (y : Int) key z s.data.toList = cd) := ⟨hcd⟩
  clear hcd
  have hwr : cd = 0 → rOk (rowV (y : Int) key z s.data.toList) = true ∧ (rowV (y : Int) key z s.data.toList).key = key := fun e => ⟨(wrote (HCD.out.trans e)).1, (wrote (HCD.out.trans e)).2.2.2⟩
  obtain ⟨⟨K, T1, Y1, T2, Y2, HS9, AS⟩, h1⟩ : ∃ r, rowV (y : Int) key z s.data.toList = r := ⟨_, rfl⟩
  rw [h1] at hln hwr
  have HR : Hd (rowV (y : Int) key z s.data.toList = ⟨K, T1, Y1, T2, Y2, HS9, AS⟩) := ⟨h1⟩
  have HLN : Hd (Y1.length ≤ 20 ∧ Y2.length ≤ 20) := ⟨hln⟩
  have HWR : Hd (cd = 0 → rOk ⟨K, T1, Y1, T2, Y2, HS9, AS⟩ = true ∧ K = key) := ⟨hwr⟩
  clear h1 hln hwr hy
  go_wp2_with fail
  refine (specRowOf_any (y : Int) key z s _ (by have := HK.out.2; omega) (by have := HS.out; omega)).mono ?_
  rewrite [HR.out, HCD.out]
  rintro e w7 h9
  obtain ⟨a1, n1, c1, a2, n2, c2, rfl, hn1, hn2, hA, hsz, hB⟩ := h9.at_
  have L7 : Hd (LR w g ao len cap bs (w7.alloc (.cells #[.string K, .int .i64 T1, .slice a1 n1 c1, .int .i64 T2, .slice a2 n2 c2, .int .i64 HS9, .bool AS] 29))) := ⟨(L6.out.below hB).below (below_lit w7 _)⟩
  have K7 : Hd (KR w w7.heap.size K T1 a1 n1 c1 Y1 T2 a2 n2 c2 Y2 HS9 AS (w7.alloc (.cells #[.string K, .int .i64 T1, .slice a1 n1 c1, .int .i64 T2, .slice a2 n2 c2, .int .i64 HS9, .bool AS] 29))) := ⟨kr_new hA hn1 (by have := HLN.out.1; omega) hn2 (by have := HLN.out.2; omega) (by have := L6.out.size; have := hB.size; omega) (by have := L6.out.size; omega)⟩
  generalize hd : w7.heap.size = d at *
  clear h9 hn1 hn2 hA hsz hB L6
  by_cases hc0 : cd = 0
  · subst hc0
    obtain ⟨hw1, hw2⟩ := HWR.out rfl
    have HW : Hd (rOk ⟨K, T1, Y1, T2, Y2, HS9, AS⟩ = true) := ⟨hw1⟩
    have HKS : Hd (K.size ≤ 7) := ⟨by rw [hw2]; exact HK.out.2⟩
    clear hw1 hw2
    go_wp2_with fail
    generalize hw : (w7.alloc (.cells #[.string K, .int .i64 T1, .slice a1 n1 c1, .int .i64 T2, .slice a2 n2 c2, .int .i64 HS9, .bool AS] 29)) = V at *
    clear hd hw
    refine (l1Below_any g ao len cap bs 5 _ hl (by omega) (by omega) L7.out.cur).mono ?_
    rintro e w8 ⟨v, hv, rfl, hC, hG⟩
    have L8 : Hd (LR w g ao len cap bs w8) := ⟨L7.out.grown hC hG⟩
    have K8 : Hd (KR w d K T1 a1 n1 c1 Y1 T2 a2 n2 c2 Y2 HS9 AS w8) := ⟨K7.out.grown hG L7.out.lt⟩
    clear hC hG L7 K7
    have hne : ¬ w.heap.size = d := by have := K8.out.wd; omega
    obtain ⟨p0, p1, p2, p3, p4, p5, p6⟩ := cells7 _ d _ _ _ _ _ _ _ _ K8.out.box
    by_cases v0 : v = 0
    · subst v0
      obtain ⟨⟨K2, T12, Y12, T22, Y22, HS2, AS2⟩, h1⟩ : ∃ r, fillR ⟨K, T1, Y1, T2, Y2, HS9, AS⟩ = r := ⟨_, rfl⟩
      have hst := fill_stays HW.out
      have hln := fill_81 (r := ⟨K, T1, Y1, T2, Y2, HS9, AS⟩) K8.out.s1 K8.out.s2
      rw [h1] at hst hln
      have HR2 : Hd (fillR ⟨K, T1, Y1, T2, Y2, HS9, AS⟩ = ⟨K2, T12, Y12, T22, Y22, HS2, AS2⟩) := ⟨h1⟩
      have HST : Hd (rOk ⟨K2, T12, Y12, T22, Y22, HS2, AS2⟩ = true ∧ K2 = K) := ⟨hst.ok, hst.key⟩
      have HL2 : Hd (Y12.length ≤ 81 ∧ Y22.length ≤ 81) := ⟨hln⟩
      clear h1 hst hln
      go_wp2_with fail
      refine (specFillRow_any K T1 a1 n1 c1 T2 a2 n2 c2 HS9 AS Y1 Y2 _ (by have := HKS.out; omega) K8.out.at1 K8.out.at2 (by have := K8.out.m1; omega) (by have := K8.out.m2; omega)).mono ?_
      rewrite [HR2.out]
      rintro e u1 h9
      obtain ⟨o1, m1, e1, o2, m2, e2, rfl, hn1, hn2, hA, hsz, hB⟩ := h9.at_
      have M1 : Hd (LR w g ao len cap bs u1) := ⟨L8.out.below hB⟩
      have A1 : Hd (Apart u1 (w.heap.size + 1) o1 e1 Y12 o2 e2 Y22) := ⟨hA.mono (by have := L8.out.size; omega)⟩
      have N1 : Hd (Y12.length = m1 ∧ Y22.length = m2) := ⟨hn1, hn2⟩
      clear h9 hn1 hn2 hA hsz hB p0 p1 p2 p3 p4 p5 p6
      obtain ⟨r0, r1, r2, r3, r4, r5, r6⟩ := cells7 _ w.heap.size _ _ _ _ _ _ _ _ M1.out.b2
      obtain ⟨s0, s1, s2, s3, s4, s5, s6⟩ := free7 _ w.heap.size _ _ _ _ _ _ _ _ M1.out.b2
      go_wp2_with fail
      refine bodyPost_ret (results_cell_row rfl _ _ w.heap.size _ _ (0, 0) _ rfl (set7 _ _ _ _ _ _ _ M1.out.b2) Tryz.underlying29 rfl (by kernel_rfl)) rfl ?_
      exact ⟨_, HST.out.1, M1.out.done N1.out.1 (by have := HL2.out.1; have := N1.out.1; omega) N1.out.2 (by have := HL2.out.2; have := N1.out.2; omega) (by rw [HST.out.2]; exact HKS.out) A1.out.one A1.out.two⟩
    by_cases v1 : v = 1
    · subst v1
      obtain ⟨⟨K2, T12, Y12, T22, Y22, HS2, AS2⟩, h1⟩ : ∃ r, backR ⟨K, T1, Y1, T2, Y2, HS9, AS⟩ = r := ⟨_, rfl⟩
      have hst := back_stays HW.out
      have hln := back_81 (r := ⟨K, T1, Y1, T2, Y2, HS9, AS⟩) K8.out.s1 K8.out.s2
      rw [h1] at hst hln
      have HR2 : Hd (backR ⟨K, T1, Y1, T2, Y2, HS9, AS⟩ = ⟨K2, T12, Y12, T22, Y22, HS2, AS2⟩) := ⟨h1⟩
      have HST : Hd (rOk ⟨K2, T12, Y12, T22, Y22, HS2, AS2⟩ = true ∧ K2 = K) := ⟨hst.ok, hst.key⟩
      have HL2 : Hd (Y12.length ≤ 81 ∧ Y22.length ≤ 81) := ⟨hln⟩
      clear h1 hst hln
      go_wp2_with fail
      refine (specBackRow_any K T1 a1 n1 c1 T2 a2 n2 c2 HS9 AS Y1 Y2 _ (by have := HKS.out; omega) K8.out.at1 K8.out.at2 (by have := K8.out.m1; omega) (by have := K8.out.m2; omega)).mono ?_
      rewrite [HR2.out]
      rintro e u1 h9
      obtain ⟨o1, m1, e1, o2, m2, e2, rfl, hn1, hn2, hA, hsz, hB⟩ := h9.at_
      have M1 : Hd (LR w g ao len cap bs u1) := ⟨L8.out.below hB⟩
      have A1 : Hd (Apart u1 (w.heap.size + 1) o1 e1 Y12 o2 e2 Y22) := ⟨hA.mono (by have := L8.out.size; omega)⟩
      have N1 : Hd (Y12.length = m1 ∧ Y22.length = m2) := ⟨hn1, hn2⟩
      clear h9 hn1 hn2 hA hsz hB p0 p1 p2 p3 p4 p5 p6
      obtain ⟨r0, r1, r2, r3, r4, r5, r6⟩ := cells7 _ w.heap.size _ _ _ _ _ _ _ _ M1.out.b2
      obtain ⟨s0, s1, s2, s3, s4, s5, s6⟩ := free7 _ w.heap.size _ _ _ _ _ _ _ _ M1.out.b2
      go_wp2_with fail
      refine bodyPost_ret (results_cell_row rfl _ _ w.heap.size _ _ (0, 0) _ rfl (set7 _ _ _ _ _ _ _ M1.out.b2) Tryz.underlying29 rfl (by kernel_rfl)) rfl ?_
      exact ⟨_, HST.out.1, M1.out.done N1.out.1 (by have := HL2.out.1; have := N1.out.1; omega) N1.out.2 (by have := HL2.out.2; have := N1.out.2; omega) (by rw [HST.out.2]; exact HKS.out) A1.out.one A1.out.two⟩
    have f0 : ((v : Int) == 0) = false := by simp; omega
    have f1 : ((v : Int) == 1) = false := by simp; omega
    clear v0 v1 hv
    obtain ⟨r0, r1, r2, r3, r4, r5, r6⟩ := cells7 _ w.heap.size _ _ _ _ _ _ _ _ L8.out.b2
    obtain ⟨s0, s1, s2, s3, s4, s5, s6⟩ := free7 _ w.heap.size _ _ _ _ _ _ _ _ L8.out.b2
    go_wp2_with fail
    refine bodyPost_ret (results_cell_row rfl _ _ w.heap.size _ _ (0, 0) _ rfl (set7 _ _ _ _ _ _ _ L8.out.b2) Tryz.underlying29 rfl (by kernel_rfl)) rfl ?_
    exact ⟨_, HW.out, L8.out.done K8.out.l1 K8.out.m1 K8.out.l2 K8.out.m2 HKS.out K8.out.own1 K8.out.own2⟩
  have hcb : (cd != 0) = true := by simpa using hc0
  have HF : Hd (formB 5 key z [120] = true) := ⟨by unfold formB; rw [HK.out.1, HZ.out]; kernel_rfl⟩
  obtain ⟨xu, hxu⟩ : ∃ x, encS 0 [120] = x := ⟨_, rfl⟩
  have HR5 : Hd (rowV 5 key z [120] = ⟨key, 0, [], 0, xu, 2, false⟩) := ⟨(rowV_new HF.out (by omega) hxu).1⟩
  have HC5 : Hd (rowC 5 key z [120] = 0) := ⟨(rowV_new HF.out (by omega) hxu).2⟩
  have HM : Hd (xu.length ≤ 20) := ⟨by have h9 := (rowV_len 5 key z [120]).2; rw [HR5.out] at h9; exact h9⟩
  have HW : Hd (rOk ⟨key, 0, [], 0, xu, 2, false⟩ = true) := ⟨by rw [← HR5.out]; exact (wrote HC5.out).1⟩
  clear hxu HWR HLN
  go_wp2_with fail
  generalize hw : (w7.alloc (.cells #[.string K, .int .i64 T1, .slice a1 n1 c1, .int .i64 T2, .slice a2 n2 c2, .int .i64 HS9, .bool AS] 29)) = V at *
  clear hd hw
  refine (specRowOf_any 5 key z ⟨#[120]⟩ _ (by have := HK.out.2; omega) (by decide)).mono ?_
  rewrite [show (⟨#[120]⟩ : ByteArray).data.toList = [120] from rfl, HR5.out, HC5.out]
  rintro e w8 h9
  obtain ⟨a3, n3, c3, a4, n4, c4, rfl, hn1, hn2, hA, hsz, hB⟩ := h9.at_
  have K8 : Hd (KR w d K T1 a1 n1 c1 Y1 T2 a2 n2 c2 Y2 HS9 AS w8) := ⟨K7.out.below hB⟩
  have L8 : Hd (LR w g ao len cap bs (((((((w8.setCell ⟨d, 0, none⟩ (.string key)).setCell ⟨d, 1, none⟩ (.int .i64 0)).setCell ⟨d, 2, none⟩ (.slice a3 n3 c3)).setCell ⟨d, 3, none⟩ (.int .i64 0)).setCell ⟨d, 4, none⟩ (.slice a4 n4 c4)).setCell ⟨d, 5, none⟩ (.int .i64 2)).setCell ⟨d, 6, none⟩ (.bool false))) := ⟨(L7.out.below hB).set7 K7.out.wd⟩
  have K9 : Hd (KR w d key 0 a3 n3 c3 [] 0 a4 n4 c4 xu 2 false (((((((w8.setCell ⟨d, 0, none⟩ (.string key)).setCell ⟨d, 1, none⟩ (.int .i64 0)).setCell ⟨d, 2, none⟩ (.slice a3 n3 c3)).setCell ⟨d, 3, none⟩ (.int .i64 0)).setCell ⟨d, 4, none⟩ (.slice a4 n4 c4)).setCell ⟨d, 5, none⟩ (.int .i64 2)).setCell ⟨d, 6, none⟩ (.bool false))) := ⟨K8.out.fill hA (by have := L7.out.size; omega) (by have := lt_of_block K7.out.box; omega) hn1 (by simp at hn1; omega) hn2 (by have := HM.out; omega)⟩
  have HKS : Hd (key.size ≤ 7) := ⟨HK.out.2⟩
  obtain ⟨t0, t1, t2, t3, t4, t5, t6⟩ := cells7 _ d _ _ _ _ _ _ _ _ K8.out.box
  obtain ⟨q0, q1, q2, q3, q4, q5, q6⟩ := free7 _ d _ _ _ _ _ _ _ _ K8.out.box
  clear h9 hn1 hn2 hA hsz hB L7 K7
  go_wp2_with fail
  clear t0 t1 t2 t3 t4 t5 t6 q0 q1 q2 q3 q4 q5 q6 K8
  generalize hw : (((((((w8.setCell ⟨d, 0, none⟩ (.string key)).setCell ⟨d, 1, none⟩ (.int .i64 0)).setCell ⟨d, 2, none⟩ (.slice a3 n3 c3)).setCell ⟨d, 3, none⟩ (.int .i64 0)).setCell ⟨d, 4, none⟩ (.slice a4 n4 c4)).setCell ⟨d, 5, none⟩ (.int .i64 2)).setCell ⟨d, 6, none⟩ (.bool false)) = V8 at *
  clear hw
  have K8 := K9
  clear K9
  refine (l1Below_any g ao len cap bs 5 _ hl (by omega) (by omega) L8.out.cur).mono ?_
  rintro e w9 ⟨v, hv, rfl, hC, hG⟩
  have L9 : Hd (LR w g ao len cap bs w9) := ⟨L8.out.grown hC hG⟩
  have K9 : Hd (KR w d key 0 a3 n3 c3 [] 0 a4 n4 c4 xu 2 false w9) := ⟨K8.out.grown hG L8.out.lt⟩
  clear hC hG L8 K8
  have hne : ¬ w.heap.size = d := by have := K9.out.wd; omega
  obtain ⟨p0, p1, p2, p3, p4, p5, p6⟩ := cells7 _ d _ _ _ _ _ _ _ _ K9.out.box
  by_cases v0 : v = 0
  · subst v0
    obtain ⟨⟨K2, T12, Y12, T22, Y22, HS2, AS2⟩, h1⟩ : ∃ r, fillR ⟨key, 0, [], 0, xu, 2, false⟩ = r := ⟨_, rfl⟩
    have hst := fill_stays HW.out
    have hln := fill_81 (r := ⟨key, 0, [], 0, xu, 2, false⟩) K9.out.s1 K9.out.s2
    rw [h1] at hst hln
    have HR2 : Hd (fillR ⟨key, 0, [], 0, xu, 2, false⟩ = ⟨K2, T12, Y12, T22, Y22, HS2, AS2⟩) := ⟨h1⟩
    have HST : Hd (rOk ⟨K2, T12, Y12, T22, Y22, HS2, AS2⟩ = true ∧ K2 = key) := ⟨hst.ok, hst.key⟩
    have HL2 : Hd (Y12.length ≤ 81 ∧ Y22.length ≤ 81) := ⟨hln⟩
    clear h1 hst hln
    go_wp2_with fail
    refine (specFillRow_any key 0 a3 n3 c3 0 a4 n4 c4 2 false [] xu _ (by have := HKS.out; omega) K9.out.at1 K9.out.at2 (by have := K9.out.m1; omega) (by have := K9.out.m2; omega)).mono ?_
    rewrite [HR2.out]
    rintro e u1 h9
    obtain ⟨o1, m1, e1, o2, m2, e2, rfl, hn1, hn2, hA, hsz, hB⟩ := h9.at_
    have M1 : Hd (LR w g ao len cap bs u1) := ⟨L9.out.below hB⟩
    have A1 : Hd (Apart u1 (w.heap.size + 1) o1 e1 Y12 o2 e2 Y22) := ⟨hA.mono (by have := L9.out.size; omega)⟩
    have N1 : Hd (Y12.length = m1 ∧ Y22.length = m2) := ⟨hn1, hn2⟩
    clear h9 hn1 hn2 hA hsz hB p0 p1 p2 p3 p4 p5 p6
    obtain ⟨r0, r1, r2, r3, r4, r5, r6⟩ := cells7 _ w.heap.size _ _ _ _ _ _ _ _ M1.out.b2
    obtain ⟨s0, s1, s2, s3, s4, s5, s6⟩ := free7 _ w.heap.size _ _ _ _ _ _ _ _ M1.out.b2
    go_wp2_with fail
    refine bodyPost_ret (results_cell_row rfl _ _ w.heap.size _ _ (0, 0) _ rfl (set7 _ _ _ _ _ _ _ M1.out.b2) Tryz.underlying29 rfl (by kernel_rfl)) rfl ?_
    exact ⟨_, HST.out.1, M1.out.done N1.out.1 (by have := HL2.out.1; have := N1.out.1; omega) N1.out.2 (by have := HL2.out.2; have := N1.out.2; omega) (by rw [HST.out.2]; exact HKS.out) A1.out.one A1.out.two⟩
  by_cases v1 : v = 1
  · subst v1
    obtain ⟨⟨K2, T12, Y12, T22, Y22, HS2, AS2⟩, h1⟩ : ∃ r, backR ⟨key, 0, [], 0, xu, 2, false⟩ = r := ⟨_, rfl⟩
    have hst := back_stays HW.out
    have hln := back_81 (r := ⟨key, 0, [], 0, xu, 2, false⟩) K9.out.s1 K9.out.s2
    rw [h1] at hst hln
    have HR2 : Hd (backR ⟨key, 0, [], 0, xu, 2, false⟩ = ⟨K2, T12, Y12, T22, Y22, HS2, AS2⟩) := ⟨h1⟩
    have HST : Hd (rOk ⟨K2, T12, Y12, T22, Y22, HS2, AS2⟩ = true ∧ K2 = key) := ⟨hst.ok, hst.key⟩
    have HL2 : Hd (Y12.length ≤ 81 ∧ Y22.length ≤ 81) := ⟨hln⟩
    clear h1 hst hln
    go_wp2_with fail
    refine (specBackRow_any key 0 a3 n3 c3 0 a4 n4 c4 2 false [] xu _ (by have := HKS.out; omega) K9.out.at1 K9.out.at2 (by have := K9.out.m1; omega) (by have := K9.out.m2; omega)).mono ?_
    rewrite [HR2.out]
    rintro e u1 h9
    obtain ⟨o1, m1, e1, o2, m2, e2, rfl, hn1, hn2, hA, hsz, hB⟩ := h9.at_
    have M1 : Hd (LR w g ao len cap bs u1) := ⟨L9.out.below hB⟩
    have A1 : Hd (Apart u1 (w.heap.size + 1) o1 e1 Y12 o2 e2 Y22) := ⟨hA.mono (by have := L9.out.size; omega)⟩
    have N1 : Hd (Y12.length = m1 ∧ Y22.length = m2) := ⟨hn1, hn2⟩
    clear h9 hn1 hn2 hA hsz hB p0 p1 p2 p3 p4 p5 p6
    obtain ⟨r0, r1, r2, r3, r4, r5, r6⟩ := cells7 _ w.heap.size _ _ _ _ _ _ _ _ M1.out.b2
    obtain ⟨s0, s1, s2, s3, s4, s5, s6⟩ := free7 _ w.heap.size _ _ _ _ _ _ _ _ M1.out.b2
    go_wp2_with fail
    refine bodyPost_ret (results_cell_row rfl _ _ w.heap.size _ _ (0, 0) _ rfl (set7 _ _ _ _ _ _ _ M1.out.b2) Tryz.underlying29 rfl (by kernel_rfl)) rfl ?_
    exact ⟨_, HST.out.1, M1.out.done N1.out.1 (by have := HL2.out.1; have := N1.out.1; omega) N1.out.2 (by have := HL2.out.2; have := N1.out.2; omega) (by rw [HST.out.2]; exact HKS.out) A1.out.one A1.out.two⟩
  have f0 : ((v : Int) == 0) = false := by simp; omega
  have f1 : ((v : Int) == 1) = false := by simp; omega
  clear v0 v1 hv
  obtain ⟨r0, r1, r2, r3, r4, r5, r6⟩ := cells7 _ w.heap.size _ _ _ _ _ _ _ _ L9.out.b2
  obtain ⟨s0, s1, s2, s3, s4, s5, s6⟩ := free7 _ w.heap.size _ _ _ _ _ _ _ _ L9.out.b2
  go_wp2_with fail
  refine bodyPost_ret (results_cell_row rfl _ _ w.heap.size _ _ (0, 0) _ rfl (set7 _ _ _ _ _ _ _ L9.out.b2) Tryz.underlying29 rfl (by kernel_rfl)) rfl ?_
  exact ⟨_, HW.out, L9.out.done K9.out.l1 K9.out.m1 K9.out.l2 K9.out.m2 HKS.out K9.out.own1 K9.out.own2⟩

set_option maxHeartbeats 4000000 in
theorem l9Any_any (g : Nat) (ao : Option Addr) (len cap : Nat) (bs : List UInt8) (w : World) (hl : len ≤ 1073741824) (h : Cursor w g ao len cap bs) :
    Calls Tryz.prog 50 #[.pointer (some ⟨g, 0, none⟩)] w (RowDrawn w g ao len cap bs) := by
  have L0 : Hd (LR w g ao len cap bs (w.alloc (.cells #[.string ⟨#[]⟩, .int .i64 0, .slice none 0 0, .int .i64 0, .slice none 0 0, .int .i64 0, .bool false] 29))) := ⟨lr_first h⟩
  clear h
  go_enter Tryz.func50, Tryz.ntmps50
  go_wp2_with fail
  refine (l9Draw_any g ao len cap bs _ hl L0.out.cur).mono ?_
  rintro e w1 ⟨⟨k, t1, b1, t2, b2, has, asd⟩, _, h9⟩
  obtain ⟨a1, n1, c1, a2, n2, c2, rfl, hn1, hm1, hn2, hm2, hks, hO1, hO2, hC, hG⟩ := h9.at_
  have L1 : Hd (LR w g ao len cap bs (w1.alloc (.cells #[.string k, .int .i64 t1, .slice a1 n1 c1, .int .i64 t2, .slice a2 n2 c2, .int .i64 has, .bool asd] 29))) := ⟨(L0.out.grown hC hG).below (below_lit w1 _)⟩
  have K1 : Hd (KR w w1.heap.size k t1 a1 n1 c1 b1 t2 a2 n2 c2 b2 has asd (w1.alloc (.cells #[.string k, .int .i64 t1, .slice a1 n1 c1, .int .i64 t2, .slice a2 n2 c2, .int .i64 has, .bool asd] 29))) := ⟨kr_own (hO1.mono (by simp)) (hO2.mono (by simp)) hn1 hm1 hn2 hm2 (L0.out.grown hC hG).size⟩
  have HKS : Hd (k.size ≤ 7) := ⟨hks⟩
  generalize hd : w1.heap.size = d at *
  clear h9 hn1 hm1 hn2 hm2 hks hO1 hO2 hC hG L0
  go_wp2_with fail
  generalize hw : (w1.alloc (.cells #[.string k, .int .i64 t1, .slice a1 n1 c1, .int .i64 t2, .slice a2 n2 c2, .int .i64 has, .bool asd] 29)) = V at *
  clear hd hw
  refine (l1Below_any g ao len cap bs 14 _ hl (by omega) (by omega) L1.out.cur).mono ?_
  rintro e w2 ⟨x, hx, rfl, hC, hG⟩
  have L2 : Hd (LR w g ao len cap bs w2) := ⟨L1.out.grown hC hG⟩
  have K2 : Hd (KR w d k t1 a1 n1 c1 b1 t2 a2 n2 c2 b2 has asd w2) := ⟨K1.out.grown hG L1.out.lt⟩
  clear hC hG L1 K1
  have hne : ¬ w.heap.size = d := by have := K2.out.wd; omega
  have hne2 : ¬ d = w.heap.size := fun h => hne h.symm
  by_cases x0 : x = 0
  · subst x0
    go_wp2_with fail
    refine (l1Text_any g ao len cap bs _ hl L2.out.cur).mono ?_
    rintro e w3 ⟨s, rfl, hs, hC, hG⟩
    have L3 : Hd (LR w g ao len cap bs w3) := ⟨L2.out.grown hC hG⟩
    have K3 : Hd (KR w d k t1 a1 n1 c1 b1 t2 a2 n2 c2 b2 has asd w3) := ⟨K2.out.grown hG L2.out.lt⟩
    have HS : Hd (s.size ≤ 7) := ⟨hs⟩
    clear hs
    clear hC hG L2 K2
    have L9 : Hd (LR w g ao len cap bs (w3.setCell ⟨d, 0, none⟩ (.string s))) := ⟨L3.out.set d 0 _ K3.out.wd⟩
    have K9 : Hd (KR w d s t1 a1 n1 c1 b1 t2 a2 n2 c2 b2 has asd (w3.setCell ⟨d, 0, none⟩ (.string s))) := ⟨K3.out.setKey s⟩
    obtain ⟨p0, p1, p2, p3, p4, p5, p6⟩ := cells7 _ d _ _ _ _ _ _ _ _ K3.out.box
    obtain ⟨u0, u1, u2, u3, u4, u5, u6⟩ := free7 _ d _ _ _ _ _ _ _ _ K3.out.box
    obtain ⟨r0, r1, r2, r3, r4, r5, r6⟩ := cells7 _ w.heap.size _ _ _ _ _ _ _ _ L3.out.b2
    obtain ⟨s0, s1, s2, s3, s4, s5, s6⟩ := free7 _ w.heap.size _ _ _ _ _ _ _ _ L3.out.b2
    go_wp2_with fail
    refine bodyPost_ret (results_cell_row rfl _ _ w.heap.size _ _ (0, 0) _ rfl (set7 _ _ _ _ _ _ _ L9.out.b2) Tryz.underlying29 rfl (by kernel_rfl)) rfl ?_
    exact L9.out.drawn K9.out.l1 K9.out.m1 K9.out.l2 K9.out.m2 HS.out K9.out.own1 K9.out.own2
  by_cases x1 : x = 1
  · subst x1
    go_wp2_with fail
    refine (l1Int_any g w2.heap.size 6 6 ao len cap bs [0, 1, 2, 3, 4, -1] _ hl (by omega) (by omega) rfl (by have := L2.out.cur.lt; omega) ?cells (L2.out.cur.below (below_lit w2 _))).mono ?_
    case cells => exact lit_ints w2 [0, 1, 2, 3, 4, -1] _
    rintro e w3 ⟨z, _, rfl, hC, hG⟩
    have L3 : Hd (LR w g ao len cap bs w3) := ⟨(L2.out.below (below_lit w2 _)).grown hC hG⟩
    have K3 : Hd (KR w d k t1 a1 n1 c1 b1 t2 a2 n2 c2 b2 has asd w3) := ⟨(K2.out.below (below_lit w2 _)).grown hG L2.out.lt⟩
    clear hC hG L2 K2
    have L9 : Hd (LR w g ao len cap bs (w3.setCell ⟨d, 5, none⟩ (.int .i64 z))) := ⟨L3.out.set d 5 _ K3.out.wd⟩
    have K9 : Hd (KR w d k t1 a1 n1 c1 b1 t2 a2 n2 c2 b2 z asd (w3.setCell ⟨d, 5, none⟩ (.int .i64 z))) := ⟨K3.out.setHas z⟩
    obtain ⟨p0, p1, p2, p3, p4, p5, p6⟩ := cells7 _ d _ _ _ _ _ _ _ _ K3.out.box
    obtain ⟨u0, u1, u2, u3, u4, u5, u6⟩ := free7 _ d _ _ _ _ _ _ _ _ K3.out.box
    obtain ⟨r0, r1, r2, r3, r4, r5, r6⟩ := cells7 _ w.heap.size _ _ _ _ _ _ _ _ L3.out.b2
    obtain ⟨s0, s1, s2, s3, s4, s5, s6⟩ := free7 _ w.heap.size _ _ _ _ _ _ _ _ L3.out.b2
    go_wp2_with fail
    refine bodyPost_ret (results_cell_row rfl _ _ w.heap.size _ _ (0, 0) _ rfl (set7 _ _ _ _ _ _ _ L9.out.b2) Tryz.underlying29 rfl (by kernel_rfl)) rfl ?_
    exact L9.out.drawn K9.out.l1 K9.out.m1 K9.out.l2 K9.out.m2 HKS.out K9.out.own1 K9.out.own2
  by_cases x2 : x = 2
  · subst x2
    have L9 : Hd (LR w g ao len cap bs (w2.setCell ⟨d, 6, none⟩ (.bool (!asd)))) := ⟨L2.out.set d 6 _ K2.out.wd⟩
    have K9 : Hd (KR w d k t1 a1 n1 c1 b1 t2 a2 n2 c2 b2 has (!asd) (w2.setCell ⟨d, 6, none⟩ (.bool (!asd)))) := ⟨K2.out.setAside (!asd)⟩
    obtain ⟨p0, p1, p2, p3, p4, p5, p6⟩ := cells7 _ d _ _ _ _ _ _ _ _ K2.out.box
    obtain ⟨u0, u1, u2, u3, u4, u5, u6⟩ := free7 _ d _ _ _ _ _ _ _ _ K2.out.box
    obtain ⟨r0, r1, r2, r3, r4, r5, r6⟩ := cells7 _ w.heap.size _ _ _ _ _ _ _ _ L2.out.b2
    obtain ⟨s0, s1, s2, s3, s4, s5, s6⟩ := free7 _ w.heap.size _ _ _ _ _ _ _ _ L2.out.b2
    go_wp2_with fail
    refine bodyPost_ret (results_cell_row rfl _ _ w.heap.size _ _ (0, 0) _ rfl (set7 _ _ _ _ _ _ _ L9.out.b2) Tryz.underlying29 rfl (by kernel_rfl)) rfl ?_
    exact L9.out.drawn K9.out.l1 K9.out.m1 K9.out.l2 K9.out.m2 HKS.out K9.out.own1 K9.out.own2
  by_cases x3 : x = 3
  · subst x3
    go_wp2_with fail
    refine (l8Any_any g ao len cap bs _ hl L2.out.cur).mono ?_
    rintro e w3 ⟨tg, a5, n5, c5, ds, rfl, hm, hn, hO, hC, hG⟩
    have L3 : Hd (LR w g ao len cap bs w3) := ⟨L2.out.grown hC hG⟩
    have K3 : Hd (KR w d k t1 a1 n1 c1 b1 t2 a2 n2 c2 b2 has asd w3) := ⟨K2.out.grown hG L2.out.lt⟩
    have O3 : Hd (OwnO w3 (w.heap.size + 1) a5 c5 ds ∧ ds.length = n5 ∧ n5 ≤ 81 ∧ ∀ q, a5 = some ⟨q, 0, none⟩ → q ≠ d) := ⟨hO.mono L2.out.size, hn, hm, fun q hq => by have := ownO_ge hO hq; have := lt_of_block K2.out.box; omega⟩
    clear hm hn hO hC hG L2 K2
    have L9 : Hd (LR w g ao len cap bs ((w3.setCell ⟨d, 1, none⟩ (.int .i64 tg)).setCell ⟨d, 2, none⟩ (.slice a5 n5 c5))) := ⟨(L3.out.set d 1 _ K3.out.wd).set d 2 _ K3.out.wd⟩
    have K9 : Hd (KR w d k tg a5 n5 c5 ds t2 a2 n2 c2 b2 has asd ((w3.setCell ⟨d, 1, none⟩ (.int .i64 tg)).setCell ⟨d, 2, none⟩ (.slice a5 n5 c5))) := ⟨(K3.out.setT1 tg).setB1 (ownO_far (ownO_far O3.out.1 O3.out.2.2.2) O3.out.2.2.2) O3.out.2.1 O3.out.2.2.1 O3.out.2.2.2⟩
    obtain ⟨p0, p1, p2, p3, p4, p5, p6⟩ := cells7 _ d _ _ _ _ _ _ _ _ K3.out.box
    obtain ⟨u0, u1, u2, u3, u4, u5, u6⟩ := free7 _ d _ _ _ _ _ _ _ _ K3.out.box
    obtain ⟨r0, r1, r2, r3, r4, r5, r6⟩ := cells7 _ w.heap.size _ _ _ _ _ _ _ _ L3.out.b2
    obtain ⟨s0, s1, s2, s3, s4, s5, s6⟩ := free7 _ w.heap.size _ _ _ _ _ _ _ _ L3.out.b2
    go_wp2_with fail
    refine bodyPost_ret (results_cell_row rfl _ _ w.heap.size _ _ (0, 0) _ rfl (set7 _ _ _ _ _ _ _ L9.out.b2) Tryz.underlying29 rfl (by kernel_rfl)) rfl ?_
    exact L9.out.drawn K9.out.l1 K9.out.m1 K9.out.l2 K9.out.m2 HKS.out K9.out.own1 K9.out.own2
  by_cases x4 : x = 4
  · subst x4
    go_wp2_with fail
    refine (l8Any_any g ao len cap bs _ hl L2.out.cur).mono ?_
    rintro e w3 ⟨tg, a5, n5, c5, ds, rfl, hm, hn, hO, hC, hG⟩
    have L3 : Hd (LR w g ao len cap bs w3) := ⟨L2.out.grown hC hG⟩
    have K3 : Hd (KR w d k t1 a1 n1 c1 b1 t2 a2 n2 c2 b2 has asd w3) := ⟨K2.out.grown hG L2.out.lt⟩
    have O3 : Hd (OwnO w3 (w.heap.size + 1) a5 c5 ds ∧ ds.length = n5 ∧ n5 ≤ 81 ∧ ∀ q, a5 = some ⟨q, 0, none⟩ → q ≠ d) := ⟨hO.mono L2.out.size, hn, hm, fun q hq => by have := ownO_ge hO hq; have := lt_of_block K2.out.box; omega⟩
    clear hm hn hO hC hG L2 K2
    have L9 : Hd (LR w g ao len cap bs ((w3.setCell ⟨d, 3, none⟩ (.int .i64 tg)).setCell ⟨d, 4, none⟩ (.slice a5 n5 c5))) := ⟨(L3.out.set d 3 _ K3.out.wd).set d 4 _ K3.out.wd⟩
    have K9 : Hd (KR w d k t1 a1 n1 c1 b1 tg a5 n5 c5 ds has asd ((w3.setCell ⟨d, 3, none⟩ (.int .i64 tg)).setCell ⟨d, 4, none⟩ (.slice a5 n5 c5))) := ⟨(K3.out.setT2 tg).setB2 (ownO_far (ownO_far O3.out.1 O3.out.2.2.2) O3.out.2.2.2) O3.out.2.1 O3.out.2.2.1 O3.out.2.2.2⟩
    obtain ⟨p0, p1, p2, p3, p4, p5, p6⟩ := cells7 _ d _ _ _ _ _ _ _ _ K3.out.box
    obtain ⟨u0, u1, u2, u3, u4, u5, u6⟩ := free7 _ d _ _ _ _ _ _ _ _ K3.out.box
    obtain ⟨r0, r1, r2, r3, r4, r5, r6⟩ := cells7 _ w.heap.size _ _ _ _ _ _ _ _ L3.out.b2
    obtain ⟨s0, s1, s2, s3, s4, s5, s6⟩ := free7 _ w.heap.size _ _ _ _ _ _ _ _ L3.out.b2
    go_wp2_with fail
    refine bodyPost_ret (results_cell_row rfl _ _ w.heap.size _ _ (0, 0) _ rfl (set7 _ _ _ _ _ _ _ L9.out.b2) Tryz.underlying29 rfl (by kernel_rfl)) rfl ?_
    exact L9.out.drawn K9.out.l1 K9.out.m1 K9.out.l2 K9.out.m2 HKS.out K9.out.own1 K9.out.own2
  by_cases x5 : x = 5
  · subst x5
    have L3 : Hd (LR w g ao len cap bs (w2.alloc (.cells #[.int .u8 129] 5))) := ⟨L2.out.below (below_lit w2 _)⟩
    have K3 : Hd (KR w d k t1 a1 n1 c1 b1 t2 a2 n2 c2 b2 has asd (w2.alloc (.cells #[.int .u8 129] 5))) := ⟨K2.out.below (below_lit w2 _)⟩
    have O3 : Hd (OwnO (w2.alloc (.cells #[.int .u8 129] 5)) (w.heap.size + 1) (some ⟨w2.heap.size, 0, none⟩) 1 [129] ∧ ∀ q, (some ⟨w2.heap.size, 0, none⟩ : Option Addr) = some ⟨q, 0, none⟩ → q ≠ d) := ⟨.inr ⟨w2.heap.size, rfl, L2.out.size, ⟨_, heap_alloc_new w2 _, by simp, by unfold maxLen; omega, rfl, by simp [cb]⟩⟩, fun q hq => by cases hq; have := lt_of_block K2.out.box; omega⟩
    clear L2 K2
    have L9 : Hd (LR w g ao len cap bs ((w2.alloc (.cells #[.int .u8 129] 5)).setCell ⟨d, 2, none⟩ (.slice (some ⟨w2.heap.size, 0, none⟩) 1 1))) := ⟨L3.out.set d 2 _ K3.out.wd⟩
    have K9 : Hd (KR w d k t1 (some ⟨w2.heap.size, 0, none⟩) 1 1 [129] t2 a2 n2 c2 b2 has asd ((w2.alloc (.cells #[.int .u8 129] 5)).setCell ⟨d, 2, none⟩ (.slice (some ⟨w2.heap.size, 0, none⟩) 1 1))) := ⟨K3.out.setB1 (ownO_far O3.out.1 O3.out.2) rfl (by omega) O3.out.2⟩
    obtain ⟨p0, p1, p2, p3, p4, p5, p6⟩ := cells7 _ d _ _ _ _ _ _ _ _ K3.out.box
    obtain ⟨u0, u1, u2, u3, u4, u5, u6⟩ := free7 _ d _ _ _ _ _ _ _ _ K3.out.box
    obtain ⟨r0, r1, r2, r3, r4, r5, r6⟩ := cells7 _ w.heap.size _ _ _ _ _ _ _ _ L3.out.b2
    obtain ⟨s0, s1, s2, s3, s4, s5, s6⟩ := free7 _ w.heap.size _ _ _ _ _ _ _ _ L3.out.b2
    go_wp2_with fail
    refine bodyPost_ret (results_cell_row rfl _ _ w.heap.size _ _ (0, 0) _ rfl (set7 _ _ _ _ _ _ _ L9.out.b2) Tryz.underlying29 rfl (by kernel_rfl)) rfl ?_
    exact L9.out.drawn K9.out.l1 K9.out.m1 K9.out.l2 K9.out.m2 HKS.out K9.out.own1 K9.out.own2
  have m0 : ((x : Int) == 0) = false := by simp; omega
  have m1 : ((x : Int) == 1) = false := by simp; omega
  have m2 : ((x : Int) == 2) = false := by simp; omega
  have m3 : ((x : Int) == 3) = false := by simp; omega
  have m4 : ((x : Int) == 4) = false := by simp; omega
  have m5 : ((x : Int) == 5) = false := by simp; omega
  clear x0 x1 x2 x3 x4 x5 hx
  obtain ⟨p0, p1, p2, p3, p4, p5, p6⟩ := cells7 _ d _ _ _ _ _ _ _ _ K2.out.box
  obtain ⟨u0, u1, u2, u3, u4, u5, u6⟩ := free7 _ d _ _ _ _ _ _ _ _ K2.out.box
  obtain ⟨r0, r1, r2, r3, r4, r5, r6⟩ := cells7 _ w.heap.size _ _ _ _ _ _ _ _ L2.out.b2
  obtain ⟨s0, s1, s2, s3, s4, s5, s6⟩ := free7 _ w.heap.size _ _ _ _ _ _ _ _ L2.out.b2
  go_wp2_with fail
  refine bodyPost_ret (results_cell_row rfl _ _ w.heap.size _ _ (0, 0) _ rfl (set7 _ _ _ _ _ _ _ L2.out.b2) Tryz.underlying29 rfl (by kernel_rfl)) rfl ?_
  exact L2.out.drawn K2.out.l1 K2.out.m1 K2.out.l2 K2.out.m2 HKS.out K2.out.own1 K2.out.own2

set_option maxHeartbeats 1000000 in
theorem drawRow_any (ao : Option Addr) (len cap : Nat) (bs : List UInt8) (w : World) (hl : len ≤ 1073741824) (hr : Reads w ao len bs) :
    Calls Tryz.prog 12 #[.slice ao len cap] w (RightGot w) := by
  have H : Hd (Reads w ao len bs) := ⟨hr⟩
  clear hr
  go_enter Tryz.func12, Tryz.ntmps12
  go_wp2_with fail
  refine (l1New_any ao len cap bs _ hl (H.out.below rfl (below_lit w _))).mono ?_
  rintro e w1 ⟨rfl, hC1, hB1⟩
  have B1 : Hd (Below w.heap.size w w1) := ⟨Below.next (below_lit w _) hB1⟩
  have C1 : Hd (Cursor w1 (w.heap.size + 1) ao len cap bs) := ⟨by simpa using hC1⟩
  have Z1 : Hd (w1.heap[w.heap.size]? = some (.cells #[.string ⟨#[]⟩, .int .i64 0, .slice none 0 0, .int .i64 0, .slice none 0 0, .int .i64 0, .bool false] 29 (0, 0))) := ⟨(hB1.block w.heap.size (by simp)).trans (heap_alloc_new w _)⟩
  clear hC1 hB1 H
  simp only [World.size_alloc]
  go_wp2_with fail
  refine (l9Draw_any (w.heap.size + 1) ao len cap bs _ hl C1.out).mono ?_
  rintro e w2 ⟨⟨k, t1, b1, t2, b2, has, asd⟩, hok, h9⟩
  have HOK : Hd (rOk ⟨k, t1, b1, t2, b2, has, asd⟩ = true) := ⟨hok⟩
  clear hok
  obtain ⟨a1, n1, c1, a2, n2, c2, rfl, hn1, hm1, hn2, hm2, hks, hO1, hO2, hC, hG⟩ := h9.at_
  have B2 : Hd (Below w.heap.size w w2) := ⟨below_grows B1.out hG B1.out.size (by omega)⟩
  have Z2 : Hd (w2.heap[w.heap.size]? = some (.cells #[.string ⟨#[]⟩, .int .i64 0, .slice none 0 0, .int .i64 0, .slice none 0 0, .int .i64 0, .bool false] 29 (0, 0))) := ⟨grown_block hG Z1.out (by omega)⟩
  have R2 : Hd ((b1.length = n1 ∧ n1 ≤ 81 ∧ b2.length = n2 ∧ n2 ≤ 81 ∧ k.size ≤ 7) ∧ OwnO w2 (w.heap.size + 2) a1 c1 b1 ∧ OwnO w2 (w.heap.size + 2) a2 c2 b2) := ⟨⟨hn1, hm1, hn2, hm2, hks⟩, hO1.mono (by have := C1.out.lt; omega), hO2.mono (by have := C1.out.lt; omega)⟩
  clear h9 hn1 hm1 hn2 hm2 hks hO1 hO2 hC hG C1 Z1 B1
  obtain ⟨r0, r1, r2, r3, r4, r5, r6⟩ := cells7 _ w.heap.size _ _ _ _ _ _ _ _ Z2.out
  obtain ⟨s0, s1, s2, s3, s4, s5, s6⟩ := free7 _ w.heap.size _ _ _ _ _ _ _ _ Z2.out
  go_wp2_with fail
  refine bodyPost_ret (results_cell_row rfl _ _ w.heap.size _ _ (0, 0) _ rfl (set7 _ _ _ _ _ _ _ Z2.out) Tryz.underlying29 rfl (by kernel_rfl)) rfl ?_
  exact ⟨⟨k, t1, b1, t2, b2, has, asd⟩, HOK.out, ⟨a1, n1, c1, a2, n2, c2, rfl, R2.out.1.1, R2.out.1.2.1, R2.out.1.2.2.1, R2.out.1.2.2.2.1, R2.out.1.2.2.2.2, (own_set7 R2.out.2.1 (by omega)).at_ R2.out.1.1, (own_set7 R2.out.2.2 (by omega)).at_ R2.out.1.2.2.1, bset7 B2.out (Nat.le_refl _)⟩⟩

set_option maxHeartbeats 1000000 in
theorem drawRowOk_any (ao : Option Addr) (len cap : Nat) (bs : List UInt8) (w : World) (hl : len ≤ 1073741824) (hr : Reads w ao len bs) :
    Calls Tryz.prog 19 #[.slice ao len cap] w (RowGot w) := by
  have H : Hd (Reads w ao len bs) := ⟨hr⟩
  clear hr
  go_enter Tryz.func19, Tryz.ntmps19
  go_wp2_with fail
  refine (l1New_any ao len cap bs _ hl (H.out.below rfl (below_lit w _))).mono ?_
  rintro e w1 ⟨rfl, hC1, hB1⟩
  have B1 : Hd (Below w.heap.size w w1) := ⟨Below.next (below_lit w _) hB1⟩
  have C1 : Hd (Cursor w1 (w.heap.size + 1) ao len cap bs) := ⟨by simpa using hC1⟩
  have Z1 : Hd (w1.heap[w.heap.size]? = some (.cells #[.string ⟨#[]⟩, .int .i64 0, .slice none 0 0, .int .i64 0, .slice none 0 0, .int .i64 0, .bool false] 29 (0, 0))) := ⟨(hB1.block w.heap.size (by simp)).trans (heap_alloc_new w _)⟩
  clear hC1 hB1 H
  simp only [World.size_alloc]
  go_wp2_with fail
  refine (l9Any_any (w.heap.size + 1) ao len cap bs _ hl C1.out).mono ?_
  rintro e w2 h9
  obtain ⟨⟨k, t1, b1, t2, b2, has, asd⟩, a1, n1, c1, a2, n2, c2, rfl, hn1, hm1, hn2, hm2, hks, hO1, hO2, hC, hG⟩ := h9.out
  have B2 : Hd (Below w.heap.size w w2) := ⟨below_grows B1.out hG B1.out.size (by omega)⟩
  have Z2 : Hd (w2.heap[w.heap.size]? = some (.cells #[.string ⟨#[]⟩, .int .i64 0, .slice none 0 0, .int .i64 0, .slice none 0 0, .int .i64 0, .bool false] 29 (0, 0))) := ⟨grown_block hG Z1.out (by omega)⟩
  have R2 : Hd ((b1.length = n1 ∧ n1 ≤ 81 ∧ b2.length = n2 ∧ n2 ≤ 81 ∧ k.size ≤ 7) ∧ OwnO w2 (w.heap.size + 2) a1 c1 b1 ∧ OwnO w2 (w.heap.size + 2) a2 c2 b2) := ⟨⟨hn1, hm1, hn2, hm2, hks⟩, hO1.mono (by have := C1.out.lt; omega), hO2.mono (by have := C1.out.lt; omega)⟩
  clear h9 hn1 hm1 hn2 hm2 hks hO1 hO2 hC hG C1 Z1 B1
  obtain ⟨r0, r1, r2, r3, r4, r5, r6⟩ := cells7 _ w.heap.size _ _ _ _ _ _ _ _ Z2.out
  obtain ⟨s0, s1, s2, s3, s4, s5, s6⟩ := free7 _ w.heap.size _ _ _ _ _ _ _ _ Z2.out
  go_wp2_with fail
  refine bodyPost_ret (results_cell_row rfl _ _ w.heap.size _ _ (0, 0) _ rfl (set7 _ _ _ _ _ _ _ Z2.out) Tryz.underlying29 rfl (by kernel_rfl)) rfl ?_
  exact ⟨⟨k, t1, b1, t2, b2, has, asd⟩, ⟨a1, n1, c1, a2, n2, c2, rfl, R2.out.1.1, R2.out.1.2.1, R2.out.1.2.2.1, R2.out.1.2.2.2.1, R2.out.1.2.2.2.2, (own_set7 R2.out.2.1 (by omega)).at_ R2.out.1.1, (own_set7 R2.out.2.2 (by omega)).at_ R2.out.1.2.2.1, bset7 B2.out (Nat.le_refl _)⟩⟩

set_option maxHeartbeats 1000000 in
theorem drawRowText_any (ao : Option Addr) (len cap : Nat) (bs : List UInt8) (w : World) (hl : len ≤ 1073741824) (hr : Reads w ao len bs) :
    Calls Tryz.prog 20 #[.slice ao len cap] w (RowGot w) := by
  have H : Hd (Reads w ao len bs) := ⟨hr⟩
  clear hr
  go_enter Tryz.func20, Tryz.ntmps20
  go_wp2_with fail
  refine (l1New_any ao len cap bs _ hl (H.out.below rfl (below_lit w _))).mono ?_
  rintro e w1 ⟨rfl, hC1, hB1⟩
  have B1 : Hd (Below w.heap.size w w1) := ⟨Below.next (below_lit w _) hB1⟩
  have C1 : Hd (Cursor w1 (w.heap.size + 1) ao len cap bs) := ⟨by simpa using hC1⟩
  have Z1 : Hd (w1.heap[w.heap.size]? = some (.cells #[.string ⟨#[]⟩, .int .i64 0, .slice none 0 0, .int .i64 0, .slice none 0 0, .int .i64 0, .bool false] 29 (0, 0))) := ⟨(hB1.block w.heap.size (by simp)).trans (heap_alloc_new w _)⟩
  clear hC1 hB1 H
  simp only [World.size_alloc]
  go_wp2_with fail
  refine (l9Any_any (w.heap.size + 1) ao len cap bs _ hl C1.out).mono ?_
  rintro e w2 h9
  obtain ⟨⟨k, t1, b1, t2, b2, has, asd⟩, a1, n1, c1, a2, n2, c2, rfl, hn1, hm1, hn2, hm2, hks, hO1, hO2, hC, hG⟩ := h9.out
  have B2 : Hd (Below w.heap.size w w2) := ⟨below_grows B1.out hG B1.out.size (by omega)⟩
  have Z2 : Hd (w2.heap[w.heap.size]? = some (.cells #[.string ⟨#[]⟩, .int .i64 0, .slice none 0 0, .int .i64 0, .slice none 0 0, .int .i64 0, .bool false] 29 (0, 0))) := ⟨grown_block hG Z1.out (by omega)⟩
  have R2 : Hd ((b1.length = n1 ∧ n1 ≤ 81 ∧ b2.length = n2 ∧ n2 ≤ 81 ∧ k.size ≤ 7) ∧ OwnO w2 (w.heap.size + 2) a1 c1 b1 ∧ OwnO w2 (w.heap.size + 2) a2 c2 b2) := ⟨⟨hn1, hm1, hn2, hm2, hks⟩, hO1.mono (by have := C1.out.lt; omega), hO2.mono (by have := C1.out.lt; omega)⟩
  clear h9 hn1 hm1 hn2 hm2 hks hO1 hO2 hC hG C1 Z1 B1
  obtain ⟨r0, r1, r2, r3, r4, r5, r6⟩ := cells7 _ w.heap.size _ _ _ _ _ _ _ _ Z2.out
  obtain ⟨s0, s1, s2, s3, s4, s5, s6⟩ := free7 _ w.heap.size _ _ _ _ _ _ _ _ Z2.out
  go_wp2_with fail
  refine bodyPost_ret (results_cell_row rfl _ _ w.heap.size _ _ (0, 0) _ rfl (set7 _ _ _ _ _ _ _ Z2.out) Tryz.underlying29 rfl (by kernel_rfl)) rfl ?_
  exact ⟨⟨k, t1, b1, t2, b2, has, asd⟩, ⟨a1, n1, c1, a2, n2, c2, rfl, R2.out.1.1, R2.out.1.2.1, R2.out.1.2.2.1, R2.out.1.2.2.2.1, R2.out.1.2.2.2.2, (own_set7 R2.out.2.1 (by omega)).at_ R2.out.1.1, (own_set7 R2.out.2.2 (by omega)).at_ R2.out.1.2.2.1, bset7 B2.out (Nat.le_refl _)⟩⟩

set_option maxHeartbeats 1000000 in
theorem drawFillRow_any (ao : Option Addr) (len cap : Nat) (bs : List UInt8) (w : World) (hl : len ≤ 1073741824) (hr : Reads w ao len bs) :
    Calls Tryz.prog 16 #[.slice ao len cap] w (RowGot w) := by
  have H : Hd (Reads w ao len bs) := ⟨hr⟩
  clear hr
  go_enter Tryz.func16, Tryz.ntmps16
  go_wp2_with fail
  refine (l1New_any ao len cap bs _ hl (H.out.below rfl (below_lit w _))).mono ?_
  rintro e w1 ⟨rfl, hC1, hB1⟩
  have B1 : Hd (Below w.heap.size w w1) := ⟨Below.next (below_lit w _) hB1⟩
  have C1 : Hd (Cursor w1 (w.heap.size + 1) ao len cap bs) := ⟨by simpa using hC1⟩
  have Z1 : Hd (w1.heap[w.heap.size]? = some (.cells #[.string ⟨#[]⟩, .int .i64 0, .slice none 0 0, .int .i64 0, .slice none 0 0, .int .i64 0, .bool false] 29 (0, 0))) := ⟨(hB1.block w.heap.size (by simp)).trans (heap_alloc_new w _)⟩
  clear hC1 hB1 H
  simp only [World.size_alloc]
  go_wp2_with fail
  refine (l9Any_any (w.heap.size + 1) ao len cap bs _ hl C1.out).mono ?_
  rintro e w2 h9
  obtain ⟨⟨k, t1, b1, t2, b2, has, asd⟩, a1, n1, c1, a2, n2, c2, rfl, hn1, hm1, hn2, hm2, hks, hO1, hO2, hC, hG⟩ := h9.out
  have B2 : Hd (Below w.heap.size w w2) := ⟨below_grows B1.out hG B1.out.size (by omega)⟩
  have Z2 : Hd (w2.heap[w.heap.size]? = some (.cells #[.string ⟨#[]⟩, .int .i64 0, .slice none 0 0, .int .i64 0, .slice none 0 0, .int .i64 0, .bool false] 29 (0, 0))) := ⟨grown_block hG Z1.out (by omega)⟩
  have R2 : Hd ((b1.length = n1 ∧ n1 ≤ 81 ∧ b2.length = n2 ∧ n2 ≤ 81 ∧ k.size ≤ 7) ∧ OwnO w2 (w.heap.size + 2) a1 c1 b1 ∧ OwnO w2 (w.heap.size + 2) a2 c2 b2) := ⟨⟨hn1, hm1, hn2, hm2, hks⟩, hO1.mono (by have := C1.out.lt; omega), hO2.mono (by have := C1.out.lt; omega)⟩
  clear h9 hn1 hm1 hn2 hm2 hks hO1 hO2 hC hG C1 Z1 B1
  obtain ⟨r0, r1, r2, r3, r4, r5, r6⟩ := cells7 _ w.heap.size _ _ _ _ _ _ _ _ Z2.out
  obtain ⟨s0, s1, s2, s3, s4, s5, s6⟩ := free7 _ w.heap.size _ _ _ _ _ _ _ _ Z2.out
  go_wp2_with fail
  refine bodyPost_ret (results_cell_row rfl _ _ w.heap.size _ _ (0, 0) _ rfl (set7 _ _ _ _ _ _ _ Z2.out) Tryz.underlying29 rfl (by kernel_rfl)) rfl ?_
  exact ⟨⟨k, t1, b1, t2, b2, has, asd⟩, ⟨a1, n1, c1, a2, n2, c2, rfl, R2.out.1.1, R2.out.1.2.1, R2.out.1.2.2.1, R2.out.1.2.2.2.1, R2.out.1.2.2.2.2, (own_set7 R2.out.2.1 (by omega)).at_ R2.out.1.1, (own_set7 R2.out.2.2 (by omega)).at_ R2.out.1.2.2.1, bset7 B2.out (Nat.le_refl _)⟩⟩

set_option maxHeartbeats 1000000 in
theorem drawCutRow_any (ao : Option Addr) (len cap : Nat) (bs : List UInt8) (w : World) (hl : len ≤ 1073741824) (hr : Reads w ao len bs) :
    Calls Tryz.prog 17 #[.slice ao len cap] w (RowGot w) := by
  have H : Hd (Reads w ao len bs) := ⟨hr⟩
  clear hr
  go_enter Tryz.func17, Tryz.ntmps17
  go_wp2_with fail
  refine (l1New_any ao len cap bs _ hl (H.out.below rfl (below_lit w _))).mono ?_
  rintro e w1 ⟨rfl, hC1, hB1⟩
  have B1 : Hd (Below w.heap.size w w1) := ⟨Below.next (below_lit w _) hB1⟩
  have C1 : Hd (Cursor w1 (w.heap.size + 1) ao len cap bs) := ⟨by simpa using hC1⟩
  have Z1 : Hd (w1.heap[w.heap.size]? = some (.cells #[.string ⟨#[]⟩, .int .i64 0, .slice none 0 0, .int .i64 0, .slice none 0 0, .int .i64 0, .bool false] 29 (0, 0))) := ⟨(hB1.block w.heap.size (by simp)).trans (heap_alloc_new w _)⟩
  clear hC1 hB1 H
  simp only [World.size_alloc]
  go_wp2_with fail
  refine (l9Any_any (w.heap.size + 1) ao len cap bs _ hl C1.out).mono ?_
  rintro e w2 h9
  obtain ⟨⟨k, t1, b1, t2, b2, has, asd⟩, a1, n1, c1, a2, n2, c2, rfl, hn1, hm1, hn2, hm2, hks, hO1, hO2, hC, hG⟩ := h9.out
  have B2 : Hd (Below w.heap.size w w2) := ⟨below_grows B1.out hG B1.out.size (by omega)⟩
  have Z2 : Hd (w2.heap[w.heap.size]? = some (.cells #[.string ⟨#[]⟩, .int .i64 0, .slice none 0 0, .int .i64 0, .slice none 0 0, .int .i64 0, .bool false] 29 (0, 0))) := ⟨grown_block hG Z1.out (by omega)⟩
  have R2 : Hd ((b1.length = n1 ∧ n1 ≤ 81 ∧ b2.length = n2 ∧ n2 ≤ 81 ∧ k.size ≤ 7) ∧ OwnO w2 (w.heap.size + 2) a1 c1 b1 ∧ OwnO w2 (w.heap.size + 2) a2 c2 b2) := ⟨⟨hn1, hm1, hn2, hm2, hks⟩, hO1.mono (by have := C1.out.lt; omega), hO2.mono (by have := C1.out.lt; omega)⟩
  clear h9 hn1 hm1 hn2 hm2 hks hO1 hO2 hC hG C1 Z1 B1
  obtain ⟨r0, r1, r2, r3, r4, r5, r6⟩ := cells7 _ w.heap.size _ _ _ _ _ _ _ _ Z2.out
  obtain ⟨s0, s1, s2, s3, s4, s5, s6⟩ := free7 _ w.heap.size _ _ _ _ _ _ _ _ Z2.out
  go_wp2_with fail
  refine bodyPost_ret (results_cell_row rfl _ _ w.heap.size _ _ (0, 0) _ rfl (set7 _ _ _ _ _ _ _ Z2.out) Tryz.underlying29 rfl (by kernel_rfl)) rfl ?_
  exact ⟨⟨k, t1, b1, t2, b2, has, asd⟩, ⟨a1, n1, c1, a2, n2, c2, rfl, R2.out.1.1, R2.out.1.2.1, R2.out.1.2.2.1, R2.out.1.2.2.2.1, R2.out.1.2.2.2.2, (own_set7 R2.out.2.1 (by omega)).at_ R2.out.1.1, (own_set7 R2.out.2.2 (by omega)).at_ R2.out.1.2.2.1, bset7 B2.out (Nat.le_refl _)⟩⟩

set_option maxHeartbeats 1000000 in
theorem drawBackRow_any (ao : Option Addr) (len cap : Nat) (bs : List UInt8) (w : World) (hl : len ≤ 1073741824) (hr : Reads w ao len bs) :
    Calls Tryz.prog 18 #[.slice ao len cap] w (RowGot w) := by
  have H : Hd (Reads w ao len bs) := ⟨hr⟩
  clear hr
  go_enter Tryz.func18, Tryz.ntmps18
  go_wp2_with fail
  refine (l1New_any ao len cap bs _ hl (H.out.below rfl (below_lit w _))).mono ?_
  rintro e w1 ⟨rfl, hC1, hB1⟩
  have B1 : Hd (Below w.heap.size w w1) := ⟨Below.next (below_lit w _) hB1⟩
  have C1 : Hd (Cursor w1 (w.heap.size + 1) ao len cap bs) := ⟨by simpa using hC1⟩
  have Z1 : Hd (w1.heap[w.heap.size]? = some (.cells #[.string ⟨#[]⟩, .int .i64 0, .slice none 0 0, .int .i64 0, .slice none 0 0, .int .i64 0, .bool false] 29 (0, 0))) := ⟨(hB1.block w.heap.size (by simp)).trans (heap_alloc_new w _)⟩
  clear hC1 hB1 H
  simp only [World.size_alloc]
  go_wp2_with fail
  refine (l9Any_any (w.heap.size + 1) ao len cap bs _ hl C1.out).mono ?_
  rintro e w2 h9
  obtain ⟨⟨k, t1, b1, t2, b2, has, asd⟩, a1, n1, c1, a2, n2, c2, rfl, hn1, hm1, hn2, hm2, hks, hO1, hO2, hC, hG⟩ := h9.out
  have B2 : Hd (Below w.heap.size w w2) := ⟨below_grows B1.out hG B1.out.size (by omega)⟩
  have Z2 : Hd (w2.heap[w.heap.size]? = some (.cells #[.string ⟨#[]⟩, .int .i64 0, .slice none 0 0, .int .i64 0, .slice none 0 0, .int .i64 0, .bool false] 29 (0, 0))) := ⟨grown_block hG Z1.out (by omega)⟩
  have R2 : Hd ((b1.length = n1 ∧ n1 ≤ 81 ∧ b2.length = n2 ∧ n2 ≤ 81 ∧ k.size ≤ 7) ∧ OwnO w2 (w.heap.size + 2) a1 c1 b1 ∧ OwnO w2 (w.heap.size + 2) a2 c2 b2) := ⟨⟨hn1, hm1, hn2, hm2, hks⟩, hO1.mono (by have := C1.out.lt; omega), hO2.mono (by have := C1.out.lt; omega)⟩
  clear h9 hn1 hm1 hn2 hm2 hks hO1 hO2 hC hG C1 Z1 B1
  obtain ⟨r0, r1, r2, r3, r4, r5, r6⟩ := cells7 _ w.heap.size _ _ _ _ _ _ _ _ Z2.out
  obtain ⟨s0, s1, s2, s3, s4, s5, s6⟩ := free7 _ w.heap.size _ _ _ _ _ _ _ _ Z2.out
  go_wp2_with fail
  refine bodyPost_ret (results_cell_row rfl _ _ w.heap.size _ _ (0, 0) _ rfl (set7 _ _ _ _ _ _ _ Z2.out) Tryz.underlying29 rfl (by kernel_rfl)) rfl ?_
  exact ⟨⟨k, t1, b1, t2, b2, has, asd⟩, ⟨a1, n1, c1, a2, n2, c2, rfl, R2.out.1.1, R2.out.1.2.1, R2.out.1.2.2.1, R2.out.1.2.2.2.1, R2.out.1.2.2.2.2, (own_set7 R2.out.2.1 (by omega)).at_ R2.out.1.1, (own_set7 R2.out.2.2 (by omega)).at_ R2.out.1.2.2.1, bset7 B2.out (Nat.le_refl _)⟩⟩

theorem results_tmp4 {fn : Func} {t u v x : Tmp} (h : fn.results = #[.tmp t, .tmp u, .tmp v, .tmp x]) (tmps : Array Value) (P : Program) (w : World) :
    (results fn tmps).run P w = .ok (.tuple #[tmps.getD t undef, tmps.getD u undef, tmps.getD v undef, tmps.getD x undef]) w := by
  simp [results, h]
/-- A phase, a key, a set and a text are drawn. -/
structure RowArgs (w : World) (e : Ending) (w' : World) : Prop where
  out : ∃ (p : Int) (k : ByteArray) (cs : Int) (s : ByteArray), e = .returned (.tuple #[.int .i64 p, .string k, .int .i64 cs, .string s]) ∧ k.size ≤ 7 ∧ s.size ≤ 28 ∧ Below w.heap.size w w'

set_option maxHeartbeats 4000000 in
theorem drawRowOf_any (ao : Option Addr) (len cap : Nat) (bs : List UInt8) (w : World) (hl : len ≤ 1073741824) (hr : Reads w ao len bs) :
    Calls Tryz.prog 6 #[.slice ao len cap] w (RowArgs w) := by
  have H : Hd (Reads w ao len bs) := ⟨hr⟩
  clear hr
  go_enter Tryz.func6, Tryz.ntmps6
  go_wp2_with fail
  refine (l1New_any ao len cap bs _ hl H.out).mono ?_
  rintro e w1 ⟨rfl, hC1, hB1⟩
  have C1 : Hd (Cursor w1 w.heap.size ao len cap bs) := ⟨hC1⟩
  have B1 : Hd (Below w.heap.size w w1) := ⟨hB1⟩
  clear hC1 hB1 H
  go_wp2_with fail
  refine (l3Any_any w.heap.size ao len cap bs _ hl C1.out).mono ?_
  rintro e w2 ⟨z, rfl, _, hC, hG⟩
  have C2 : Hd (Cursor w2 w.heap.size ao len cap bs) := ⟨hC⟩
  have B2 : Hd (Below w.heap.size w w2) := ⟨below_grows B1.out hG B1.out.size (Nat.le_refl _)⟩
  clear hC hG C1 B1
  go_wp2_with fail
  refine (l1Name_any w.heap.size ao len cap bs _ hl C2.out).mono ?_
  rintro e w3 ⟨key, rfl, _, hks, hC, hG⟩
  have C3 : Hd (Cursor w3 w.heap.size ao len cap bs) := ⟨hC⟩
  have B3 : Hd (Below w.heap.size w w3) := ⟨below_grows B2.out hG B2.out.size (Nat.le_refl _)⟩
  have HK : Hd (key.size ≤ 7) := ⟨hks⟩
  clear hks
  clear hC hG C2 B2
  go_wp2_with fail
  refine (l1Once_any w.heap.size ao len cap bs 8 _ hl (by omega) (by omega) C3.out).mono ?_
  rintro e w4 ⟨b, rfl, hC, hG⟩
  have C4 : Hd (Cursor w4 w.heap.size ao len cap bs) := ⟨hC⟩
  have B4 : Hd (Below w.heap.size w w4) := ⟨below_grows B3.out hG B3.out.size (Nat.le_refl _)⟩
  clear hC hG C3 B3
  cases b with
  | true =>
    go_wp2_with fail
    refine (l1Text_any w.heap.size ao len cap bs _ hl C4.out).mono ?_
    rintro e w5 ⟨t, rfl, ht, hC, hG⟩
    have C5 : Hd (Cursor w5 w.heap.size ao len cap bs) := ⟨hC⟩
    have B5 : Hd (Below w.heap.size w w5) := ⟨below_grows B4.out hG B4.out.size (Nat.le_refl _)⟩
    have HT : Hd (t.size ≤ 7) := ⟨ht⟩
    clear ht
    clear hC hG C4 B4
    go_wp2_with fail
    refine (l1Int_any w.heap.size w5.heap.size 3 3 ao len cap bs [z, z, 0] _ hl (by omega) (by omega) rfl (by have := C5.out.lt; omega) ?cells (C5.out.below (below_lit w5 _))).mono ?_
    case cells => exact lit_ints w5 [z, z, 0] _
    rintro e w6 ⟨zi, _, rfl, hC, hG⟩
    have C6 : Hd (Cursor w6 w.heap.size ao len cap bs) := ⟨hC⟩
    have B6 : Hd (Below w.heap.size w w6) := ⟨below_grows (Below.next B5.out (below_lit w5 _)) hG (by have := B5.out.size; simp; omega) (Nat.le_refl _)⟩
    clear hC hG C5 B5
    go_wp2_with fail
    refine (l5Text_any zi w.heap.size ao len cap bs 6 _ hl (by omega) C6.out).mono ?_
    rintro e w7 ⟨s, rfl, hs, hC, hG⟩
    have C7 : Hd (Cursor w7 w.heap.size ao len cap bs) := ⟨hC⟩
    have B7 : Hd (Below w.heap.size w w7) := ⟨below_grows B6.out hG B6.out.size (Nat.le_refl _)⟩
    have HS : Hd (s.size ≤ 28) := ⟨by omega⟩
    clear hs
    clear hC hG C6 B6
    go_wp2_with fail
    refine (l1Once_any w.heap.size ao len cap bs 6 _ hl (by omega) (by omega) C7.out).mono ?_
    rintro e w8 ⟨b2, rfl, hC, hG⟩
    have C8 : Hd (Cursor w8 w.heap.size ao len cap bs) := ⟨hC⟩
    have B8 : Hd (Below w.heap.size w w8) := ⟨below_grows B7.out hG B7.out.size (Nat.le_refl _)⟩
    clear hC hG C7 B7
    cases b2 with
    | true =>
      go_wp2_with fail
      refine (l2Bent_any w.heap.size ao len cap bs _ hl C8.out).mono ?_
      rintro e w9 ⟨s2, rfl, hs, hC, hG⟩
      have C9 : Hd (Cursor w9 w.heap.size ao len cap bs) := ⟨hC⟩
      have B9 : Hd (Below w.heap.size w w9) := ⟨below_grows B8.out hG B8.out.size (Nat.le_refl _)⟩
      have HS2 : Hd (s2.size ≤ 28) := ⟨hs⟩
      clear hs
      clear hC hG C8 B8
      go_wp2_with fail
      refine (l1Below_any w.heap.size ao len cap bs 10 _ hl (by omega) (by omega) C9.out).mono ?_
      rintro e w10 ⟨y, hy, rfl, hC, hG⟩
      have C10 : Hd (Cursor w10 w.heap.size ao len cap bs) := ⟨hC⟩
      have B10 : Hd (Below w.heap.size w w10) := ⟨below_grows B9.out hG B9.out.size (Nat.le_refl _)⟩
      clear hy
      clear hC hG C9 B9
      go_wp2_with fail
      (try simp only [Exit.inBlock, Exit.then])
      refine bodyPost_ret (results_tmp4 rfl _ _ _) rfl ?_
      exact ⟨_, t, z, s2, rfl, HT.out, HS2.out, B10.out⟩
    | false =>
      go_wp2_with fail
      refine (l1Below_any w.heap.size ao len cap bs 10 _ hl (by omega) (by omega) C8.out).mono ?_
      rintro e w9 ⟨y, hy, rfl, hC, hG⟩
      have C9 : Hd (Cursor w9 w.heap.size ao len cap bs) := ⟨hC⟩
      have B9 : Hd (Below w.heap.size w w9) := ⟨below_grows B8.out hG B8.out.size (Nat.le_refl _)⟩
      clear hy
      clear hC hG C8 B8
      go_wp2_with fail
      (try simp only [Exit.inBlock, Exit.then])
      refine bodyPost_ret (results_tmp4 rfl _ _ _) rfl ?_
      exact ⟨_, t, z, s, rfl, HT.out, HS.out, B9.out⟩
  | false =>
    go_wp2_with fail
    refine (l1Int_any w.heap.size w4.heap.size 3 3 ao len cap bs [z, z, 0] _ hl (by omega) (by omega) rfl (by have := C4.out.lt; omega) ?cells (C4.out.below (below_lit w4 _))).mono ?_
    case cells => exact lit_ints w4 [z, z, 0] _
    rintro e w5 ⟨zi, _, rfl, hC, hG⟩
    have C5 : Hd (Cursor w5 w.heap.size ao len cap bs) := ⟨hC⟩
    have B5 : Hd (Below w.heap.size w w5) := ⟨below_grows (Below.next B4.out (below_lit w4 _)) hG (by have := B4.out.size; simp; omega) (Nat.le_refl _)⟩
    clear hC hG C4 B4
    go_wp2_with fail
    refine (l5Text_any zi w.heap.size ao len cap bs 6 _ hl (by omega) C5.out).mono ?_
    rintro e w6 ⟨s, rfl, hs, hC, hG⟩
    have C6 : Hd (Cursor w6 w.heap.size ao len cap bs) := ⟨hC⟩
    have B6 : Hd (Below w.heap.size w w6) := ⟨below_grows B5.out hG B5.out.size (Nat.le_refl _)⟩
    have HS : Hd (s.size ≤ 28) := ⟨by omega⟩
    clear hs
    clear hC hG C5 B5
    go_wp2_with fail
    refine (l1Once_any w.heap.size ao len cap bs 6 _ hl (by omega) (by omega) C6.out).mono ?_
    rintro e w7 ⟨b2, rfl, hC, hG⟩
    have C7 : Hd (Cursor w7 w.heap.size ao len cap bs) := ⟨hC⟩
    have B7 : Hd (Below w.heap.size w w7) := ⟨below_grows B6.out hG B6.out.size (Nat.le_refl _)⟩
    clear hC hG C6 B6
    cases b2 with
    | true =>
      go_wp2_with fail
      refine (l2Bent_any w.heap.size ao len cap bs _ hl C7.out).mono ?_
      rintro e w8 ⟨s2, rfl, hs, hC, hG⟩
      have C8 : Hd (Cursor w8 w.heap.size ao len cap bs) := ⟨hC⟩
      have B8 : Hd (Below w.heap.size w w8) := ⟨below_grows B7.out hG B7.out.size (Nat.le_refl _)⟩
      have HS2 : Hd (s2.size ≤ 28) := ⟨hs⟩
      clear hs
      clear hC hG C7 B7
      go_wp2_with fail
      refine (l1Below_any w.heap.size ao len cap bs 10 _ hl (by omega) (by omega) C8.out).mono ?_
      rintro e w9 ⟨y, hy, rfl, hC, hG⟩
      have C9 : Hd (Cursor w9 w.heap.size ao len cap bs) := ⟨hC⟩
      have B9 : Hd (Below w.heap.size w w9) := ⟨below_grows B8.out hG B8.out.size (Nat.le_refl _)⟩
      clear hy
      clear hC hG C8 B8
      go_wp2_with fail
      (try simp only [Exit.inBlock, Exit.then])
      refine bodyPost_ret (results_tmp4 rfl _ _ _) rfl ?_
      exact ⟨_, key, z, s2, rfl, HK.out, HS2.out, B9.out⟩
    | false =>
      go_wp2_with fail
      refine (l1Below_any w.heap.size ao len cap bs 10 _ hl (by omega) (by omega) C7.out).mono ?_
      rintro e w8 ⟨y, hy, rfl, hC, hG⟩
      have C8 : Hd (Cursor w8 w.heap.size ao len cap bs) := ⟨hC⟩
      have B8 : Hd (Below w.heap.size w w8) := ⟨below_grows B7.out hG B7.out.size (Nat.le_refl _)⟩
      clear hy
      clear hC hG C7 B7
      go_wp2_with fail
      (try simp only [Exit.inBlock, Exit.then])
      refine bodyPost_ret (results_tmp4 rfl _ _ _) rfl ?_
      exact ⟨_, key, z, s, rfl, HK.out, HS.out, B8.out⟩

set_option maxHeartbeats 2000000 in
theorem sameRow_true (k : ByteArray) (t1 : Int) (a1 : Option Addr) (n1 c1 : Nat) (t2 : Int) (a2 : Option Addr) (n2 c2 : Nat) (has : Int) (asd : Bool) (e1 : Option Addr) (m1 d1 : Nat) (e2 : Option Addr) (m2 d2 : Nat) (b1 b2 : List UInt8) (w : World) (h1 : CellAt w a1 n1 c1 b1) (h2 : CellAt w a2 n2 c2 b2) (h3 : CellAt w e1 m1 d1 b1) (h4 : CellAt w e2 m2 d2 b2) :
    Calls Tryz.prog 9 #[.agg #[.string k, .int .i64 t1, .slice a1 n1 c1, .int .i64 t2, .slice a2 n2 c2, .int .i64 has, .bool asd], .agg #[.string k, .int .i64 t1, .slice e1 m1 d1, .int .i64 t2, .slice e2 m2 d2, .int .i64 has, .bool asd]] w fun e w' => e = .returned (.bool true) ∧ Below w.heap.size w w' := by
  have H1 : Hd (CellAt w a1 n1 c1 b1) := ⟨h1⟩
  have H2 : Hd (CellAt w a2 n2 c2 b2) := ⟨h2⟩
  have H3 : Hd (CellAt w e1 m1 d1 b1) := ⟨h3⟩
  have H4 : Hd (CellAt w e2 m2 d2 b2) := ⟨h4⟩
  clear h1 h2 h3 h4
  have f1 : (k.toList == k.toList) = true := by simp
  have f2 : (has == has) = true := by simp
  have f3 : (asd == asd) = true := by simp
  go_enter Tryz.func9, Tryz.ntmps9
  go_wp2_with fail
  generalize hA : Obj.cells #[Value.string k, .int .i64 t1, .slice a1 n1 c1, .int .i64 t2, .slice a2 n2 c2, .int .i64 has, .bool asd] 29 = A
  generalize hB : Obj.cells #[Value.string k, .int .i64 t1, .slice e1 m1 d1, .int .i64 t2, .slice e2 m2 d2, .int .i64 has, .bool asd] 29 = B
  have h0 : Below w.heap.size w ((w.alloc A).alloc B) := below_lit2 w A B
  refine (sameCell_true t1 a1 n1 c1 e1 m1 d1 b1 _ (H1.out.below h0) (H3.out.below h0)).mono ?_
  rintro e v1 ⟨rfl, hb⟩
  obtain ⟨l1, l2⟩ := laid2 w A B
  subst hA hB
  have K1 : Hd (v1.heap[w.heap.size]? = some (.cells #[.string k, .int .i64 t1, .slice a1 n1 c1, .int .i64 t2, .slice a2 n2 c2, .int .i64 has, .bool asd] 29 (0, 0))) := ⟨(hb.block _ (by simp; omega)).trans l1⟩
  have K2 : Hd (v1.heap[w.heap.size + 1]? = some (.cells #[.string k, .int .i64 t1, .slice e1 m1 d1, .int .i64 t2, .slice e2 m2 d2, .int .i64 has, .bool asd] 29 (0, 0))) := ⟨(hb.block _ (by simp)).trans l2⟩
  have B1 : Hd (Below w.heap.size w v1) := ⟨Below.next h0 hb⟩
  obtain ⟨_, _, _, x3, x4, _, _⟩ := cells7 v1 w.heap.size _ _ _ _ _ _ _ _ K1.out
  obtain ⟨_, _, _, y3, y4, _, _⟩ := cells7 v1 (w.heap.size + 1) _ _ _ _ _ _ _ _ K2.out
  clear hb h0 l1 l2
  go_wp2_with fail
  refine (sameCell_true t2 a2 n2 c2 e2 m2 d2 b2 _ (H2.out.below B1.out) (H4.out.below B1.out)).mono ?_
  rintro e v2 ⟨rfl, hb⟩
  obtain ⟨_, _, _, _, _, x5, x6⟩ := cells7 v2 w.heap.size _ _ _ _ _ _ _ _ ((hb.block _ (lt_of_block K1.out)).trans K1.out)
  obtain ⟨_, _, _, _, _, y5, y6⟩ := cells7 v2 (w.heap.size + 1) _ _ _ _ _ _ _ _ ((hb.block _ (lt_of_block K2.out)).trans K2.out)
  have B2 : Hd (Below w.heap.size w v2) := ⟨Below.next B1.out hb⟩
  clear hb x3 x4 y3 y4 K1 K2 B1
  go_wp2_with fail
  go_ret
  exact ⟨rfl, B2.out⟩

end Go.Proofs.YtpafjehphajbhaaGreatDoor
