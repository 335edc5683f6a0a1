/- Contracts of what is drawn for the laws of stage 5: texts of a set, their bytes, bent or not. -/
import Derived.Test.YtcddjfdmodpnjaaDoorDrawT
import Derived.Test.YtcddjfdmodpnjaaDoorCodeT
namespace Go.Proofs.YtcddjfdmodpnjaaDoor
open Go.RowKit

theorem encS_len4 (cs : Int) (t : List UInt8) : (encS cs t).length ≤ 4 * t.length := by
  unfold encS
  split
  · rename_i h
    simp only [encOk, encIn, Bool.and_eq_true, decide_eq_true_eq] at h
    have h1 := writeB_len cs (signsOf t)
    have h2 := signsOf_len _ h.1.2
    omega
  · simp
theorem bsN_le {cs b : Int} (h : bsOk cs b = true) : bsN cs b ≤ 9223372036854775807 := by
  rcases bs_sign h with h | h <;> omega

set_option maxHeartbeats 400000 in
theorem l5Sign_any (cs : Int) (g : Nat) (ao : Option Addr) (len cap : Nat) (bs : List UInt8) (w : World) (hl : len ≤ 1073741824) (h : Cursor w g ao len cap bs) :
    Calls Tryd.prog 55 #[.pointer (some ⟨g, 0, none⟩), .int .i64 cs] w (IntDrawn w g ao len cap bs) := by
  have H : Hd (Cursor w g ao len cap bs) := ⟨h⟩
  have hlt := h.lt
  clear h
  by_cases h0 : cs = 0
  · subst h0
    go_enter Tryd.func55, Tryd.ntmps55
    go_wp2_with fail
    refine (l2Sign_any g ao len cap bs _ hl H.out).mono ?_
    rintro e w1 ⟨z, rfl, hz, hC, hG⟩
    have HC : Hd (Cursor w1 g ao len cap bs) := ⟨hC⟩
    have HG : Hd (w.grownBy w1 (some g)) := ⟨hG⟩
    have HZ : Hd (z ≤ 9223372036854775807) := ⟨hz⟩
    clear hC hG hz
    go_wp2_with fail
    go_ret
    exact ⟨z, rfl, HZ.out, HC.out, HG.out⟩
  have e0 : (cs == 0) = false := by simpa using h0
  by_cases h5 : cs = 5
  · subst h5
    go_enter Tryd.func55, Tryd.ntmps55
    go_wp2_with fail
    refine (l1Int_any g w.heap.size 7 7 ao len cap bs [97, 32, 12353, 12435, 12449, 12534, 12354] _ hl (by omega) (by omega) rfl (by omega) ?cells (H.out.below ((Below.refl _ w).alloc (Nat.le_refl _) _))).mono ?_
    case cells => exact lit_ints w [97, 32, 12353, 12435, 12449, 12534, 12354] _
    rintro e w1 ⟨z, hz, rfl, hC, hG⟩
    have HC : Hd (Cursor w1 g ao len cap bs) := ⟨hC⟩
    have HG : Hd (w.grownBy w1 (some g)) := ⟨grown_of_alloc hG⟩
    have HZ : Hd (z ≤ 9223372036854775807) := ⟨(by decide : ∀ z ∈ ([97, 32, 12353, 12435, 12449, 12534, 12354] : List Int), z ≤ 9223372036854775807) z hz⟩
    clear hC hG hz
    go_wp2_with fail
    go_ret
    exact ⟨z, rfl, HZ.out, HC.out, HG.out⟩
  have e5 : (cs == 5) = false := by simpa using h5
  clear h0 h5
  go_enter Tryd.func55, Tryd.ntmps55
  go_wp2_with fail
  refine (l1Int_any g w.heap.size 12 12 ao len cap bs [65, 97, 32, 164, 192, 200, 228, 255, 163, 128, 130, 189] _ hl (by omega) (by omega) rfl (by omega) ?cells (H.out.below ((Below.refl _ w).alloc (Nat.le_refl _) _))).mono ?_
  case cells => exact lit_ints w [65, 97, 32, 164, 192, 200, 228, 255, 163, 128, 130, 189] _
  rintro e w1 ⟨y, hy, rfl, hC, hG⟩
  have HC : Hd (Cursor w1 g ao len cap bs) := ⟨hC⟩
  have HG : Hd (w.grownBy w1 (some g)) := ⟨grown_of_alloc hG⟩
  clear hC hG hy
  obtain ⟨z, hz⟩ : ∃ z, bsN cs y = z := ⟨_, rfl⟩
  have HZ : Hd (bsN cs y = z) := ⟨hz⟩
  obtain ⟨ok, hok⟩ : ∃ ok, bsOk cs y = ok := ⟨_, rfl⟩
  have HK : Hd (bsOk cs y = ok) := ⟨hok⟩
  clear hz hok
  go_wp2_with fail
  refine (specByteSign_any cs y _).mono ?_
  rewrite [HZ.out, HK.out]
  rintro e w2 ⟨rfl, hB⟩
  have C2 : Hd (Cursor w2 g ao len cap bs) := ⟨HC.out.below hB⟩
  have G2 : Hd (w.grownBy w2 (some g)) := ⟨grown_next HG.out (grown_below hB _)⟩
  clear hB HC HG
  cases ok with
  | false =>
    have X1 : Hd ((120 : Int) ≤ 9223372036854775807) := ⟨by omega⟩
    go_wp2_with fail
    go_ret
    exact ⟨120, rfl, X1.out, C2.out, G2.out⟩
  | true =>
    have X1 : Hd (z ≤ 9223372036854775807) := ⟨by rw [← HZ.out]; exact bsN_le HK.out⟩
    go_wp2_with fail
    go_ret
    exact ⟨z, rfl, X1.out, C2.out, G2.out⟩

set_option maxHeartbeats 1000000 in
theorem l5Text_any (cs : Int) (g : Nat) (ao : Option Addr) (len cap : Nat) (bs : List UInt8) (m : Nat) (w : World) (hl : len ≤ 1073741824) (hm : m ≤ 255) (h : Cursor w g ao len cap bs) :
    Calls Tryd.prog 38 #[.pointer (some ⟨g, 0, none⟩), .int .i64 cs, .int .i64 (m : Int)] w (TextDrawn w g ao len cap bs (4 * m)) := by
  have H : Hd (Cursor w g ao len cap bs) := ⟨h⟩
  have hlt := h.lt
  clear h
  go_enter Tryd.func38, Tryd.ntmps38
  go_wp2_with fail
  refine (l1Below_any g ao len cap bs (m + 1) _ hl (by omega) (by omega) (H.out.below ((Below.refl _ w).alloc (Nat.le_refl _) _))).mono ?_
  rintro e w1 ⟨x, hx, rfl, hC1, hG1⟩
  have T1 : Hd (TextAt w g ao len cap bs m x w.heap.size 0 0 w1) := ⟨by
    have hO : Own (w.alloc (.cells #[] 5)) w.heap.size 0 [] := ⟨#[], heap_alloc_new w _, by simp, Nat.zero_le _, rfl, by simp⟩
    exact ⟨[], rfl, by omega, Nat.le_refl _, hO.grown hG1 (by omega), hC1, grown_of_alloc hG1⟩⟩
  clear hC1 hG1 H
  go_wp2_with fail
  go_loopw [7, 8] (fun v i wr => ∃ (j q c n : Nat), i = .int .i64 j ∧ v = .slice (some ⟨q, 0, none⟩) n c ∧ Hd (TextAt w g ao len cap bs m j q c n wr)) (fun _ i _ => (intOf i).toNat)
  case atStart => exact ⟨x, w.heap.size, 0, 0, rfl, rfl, T1⟩
  case round =>
    clear T1
    obtain ⟨j, q, c, n, rfl, rfl, T⟩ := hrel
    have hj : n + 4 * j ≤ 1020 := by obtain ⟨ds, _, h2, _⟩ := T.out; omega
    by_cases h0 : 0 < j
    · have hjI : (0 : Int) < (j : Int) := by omega
      have C1 : Hd (Cursor wr g ao len cap bs) := ⟨by obtain ⟨ds, _, _, _, _, h5, _⟩ := T.out; exact h5⟩
      go_wp2_with fail
      refine (l5Sign_any cs g ao len cap bs _ hl C1.out).mono ?_
      rintro e w2 ⟨z, rfl, _, hC2, hG2⟩
      obtain ⟨ds, d1, d2, d3, d4, d5, d6⟩ := T.out
      have O2 : Hd (Own w2 q c ds) := ⟨d4.grown hG2 (by omega)⟩
      have C2 : Hd (Cursor w2 g ao len cap bs) := ⟨hC2⟩
      have G2 : Hd (w.grownBy w2 (some g)) := ⟨grown_next d6 hG2⟩
      have D1 : Hd (ds.length = n) := ⟨d1⟩
      have D2 : Hd (n + 4 * j ≤ 4 * m) := ⟨d2⟩
      clear hC2 hG2 d1 d2 d3 d4 d5 d6 T C1
      go_wp2_with fail
      refine (specPutSign_some q 0 n c ds z _ D1.out (O2.out.cell D1.out) O2.out.lt (by omega)).mono ?_
      rintro e w3 ⟨q3, c3, rfl, hq3, hO3, hB3⟩
      have T3 : Hd (TextAt w g ao len cap bs m (j - 1) q3 c3 (ds ++ signB z).length w3) := ⟨⟨ds ++ signB z, rfl, by have := signB_len z; have := D1.out; have := D2.out; rw [List.length_append]; omega, by have := G2.out.size; omega, hO3, C2.out.below hB3, grown_next G2.out (grown_below hB3 _)⟩⟩
      generalize (ds ++ signB z).length = n3 at *
      clear hq3 hO3 hB3 O2 C2 G2 D1 D2
      go_wp2_with fail
      go_roundw
      case rel => exact ⟨j - 1, q3, c3, n3, by go_num, rfl, T3⟩
      case measure => simp [intOf]; omega
    · have hjI : ¬ (0 : Int) < (j : Int) := by omega
      obtain ⟨ds, d1, d2, d3, d4, d5, d6⟩ := T.out
      have hcv := conv_owned (d4.owns d1 (Nat.le_refl q))
      have C2 : Hd (Cursor wr g ao len cap bs) := ⟨d5⟩
      have G2 : Hd (w.grownBy wr (some g)) := ⟨d6⟩
      have Hs : Hd ((⟨ds.toArray⟩ : ByteArray).size ≤ 4 * m) := ⟨by show ds.toArray.size ≤ _; rw [List.size_toArray]; omega⟩
      clear d1 d2 d3 d4 d5 d6 T
      generalize ds.toArray = S at *
      go_wp2_with fail
      go_ret
      exact ⟨_, rfl, Hs.out, C2.out, G2.out⟩

set_option maxHeartbeats 1000000 in
theorem l5Bytes_any (cs : Int) (g : Nat) (ao : Option Addr) (len cap : Nat) (bs : List UInt8) (w : World) (hl : len ≤ 1073741824) (h : Cursor w g ao len cap bs) :
    Calls Tryd.prog 32 #[.pointer (some ⟨g, 0, none⟩), .int .i64 cs] w (BytesDrawn w g ao len cap bs 81) := by
  obtain ⟨i0, hi, hz0, hz1, hz2⟩ := info_parts info8
  have H : Hd (Cursor w g ao len cap bs) := ⟨h⟩
  have Hlt : Hd (g < w.heap.size) := ⟨h.lt⟩
  clear h
  go_enter Tryd.func32, Tryd.ntmps32
  go_wp2_with fail
  refine (l5Text_any cs g ao len cap bs 5 _ hl (by omega) H.out).mono ?_
  rintro e w1 ⟨s, rfl, hs, hC1, hG1⟩
  have C1 : Hd (Cursor w1 g ao len cap bs) := ⟨hC1⟩
  have G1 : Hd (w.grownBy w1 (some g)) := ⟨hG1⟩
  clear hC1 hG1 H
  obtain ⟨xs, hxs⟩ : ∃ xs, encS cs s.data.toList = xs := ⟨_, rfl⟩
  obtain ⟨ok, hok⟩ : ∃ ok, encOk cs s.data.toList = ok := ⟨_, rfl⟩
  obtain ⟨n, hn⟩ : ∃ n, xs.length = n := ⟨_, rfl⟩
  have HX : Hd (encS cs s.data.toList = xs) := ⟨hxs⟩
  have HK : Hd (encOk cs s.data.toList = ok) := ⟨hok⟩
  have HN : Hd (xs.length = n) := ⟨hn⟩
  have hn80 : n ≤ 80 := by
    have := encS_len4 cs s.data.toList
    rw [hxs, hn, size_list] at this
    omega
  clear hxs hok hn
  go_wp2_with fail
  refine (specEncode_any cs s _ (by omega)).mono ?_
  rewrite [HX.out, HK.out]
  rintro e w2 ⟨q, c, rfl, hq, hO, hB⟩
  rewrite [HN.out]
  have C2 : Hd (Cursor w2 g ao len cap bs) := ⟨C1.out.below hB⟩
  have G2 : Hd (w.grownBy w2 (some g)) := ⟨grown_next G1.out (grown_below hB _)⟩
  have O2 : Hd (Own w2 q c xs) := ⟨hO⟩
  have Q2 : Hd (w.heap.size ≤ q) := ⟨by have := G1.out.size; omega⟩
  have QG : Hd (q ≠ g) := ⟨by have := Q2.out; have := Hlt.out; omega⟩
  clear hB hO hq C1 G1 hs
  go_wp2_with fail
  refine (l1Below_any g ao len cap bs 5 _ hl (by omega) (by omega) C2.out).mono ?_
  rintro e w3 ⟨x, hx, rfl, hC3, hG3⟩
  have C3 : Hd (Cursor w3 g ao len cap bs) := ⟨hC3⟩
  have G3 : Hd (w.grownBy w3 (some g)) := ⟨grown_next G2.out hG3⟩
  have O3 : Hd (Own w3 q c xs) := ⟨O2.out.grown hG3 QG.out⟩
  clear hC3 hG3 C2 G2 O2
  by_cases x0 : x = 0
  · subst x0
    go_wp2_with fail
    refine (l1Bend_any g ao len cap bs q n c xs _ hl (by omega) HN.out (O3.out.cell HN.out) O3.out.lt C3.out).mono ?_
    rintro e w4 ⟨q4, m4, c4, ds, rfl, d1, d2, d3, d4, d5, d6⟩
    have R : Hd (ds.length = m4 ∧ m4 ≤ 81 ∧ w.heap.size ≤ q4 ∧ Own w4 q4 c4 ds ∧ Cursor w4 g ao len cap bs ∧ w.grownBy w4 (some g)) := ⟨d1, by omega, by have := G3.out.size; omega, d4, d5, grown_next G3.out d6⟩
    clear d1 d2 d3 d4 d5 d6 C3 G3 O3
    go_wp2_with fail
    go_ret
    exact ⟨q4, m4, c4, ds, rfl, R.out⟩
  · by_cases x1 : x = 1
    · subst x1
      have hlt3 := C3.out.lt
      go_wp2_with fail
      refine (l1Int_any g w3.heap.size 6 6 ao len cap bs [128, 129, 164, 255, 194, 157] _ hl (by omega) (by omega) rfl (by omega) ?cells (C3.out.below (below_lit _ _))).mono ?_
      case cells => exact lit_ints w3 [128, 129, 164, 255, 194, 157] _
      rintro e w4 ⟨z, hz, rfl, hC4, hG4⟩
      have C4 : Hd (Cursor w4 g ao len cap bs) := ⟨hC4⟩
      have G4 : Hd (w.grownBy w4 (some g)) := ⟨grown_next G3.out (grown_of_alloc hG4)⟩
      have O4 : Hd (Own w4 q c xs) := ⟨O3.out.grown (grown_of_alloc hG4) QG.out⟩
      have hz2' : 0 ≤ z ∧ z < 256 := (by decide : ∀ z ∈ ([128, 129, 164, 255, 194, 157] : List Int), 0 ≤ z ∧ z < 256) z hz
      have hp : Hd ([.int .u8 (z % 256)] = ([bt z.toNat] : List UInt8).map cb) := ⟨by
        simp only [List.map_cons, List.map_nil]
        rw [← cb_int (x := z % 256) (by rw [bt_val _ (by omega)]; omega)]⟩
      clear hC4 hG4 hz hz2' C3 G3 O3 hlt3
      have hown : Hd (w4.ownsRow w.heap.size 5 1 (.slice (some ⟨q, 0, none⟩) n c) n (xs.map cb)) := ⟨O4.out.owns HN.out Q2.out⟩
      go_wp2_with (at_builtin; refine wpList_append_own _ rfl (.tmp 24) (.tmp 29) 22 rfl w.heap.size 5 i0 (.int .u8 0) 1 1 Tryd.underlying22 hi hz0 hz1 hz2 rfl (by decide) _ n (xs.map cb) rfl ?hown ⟨w4.heap.size, 0, none⟩ 1 1 (([bt z.toNat] : List UInt8).map cb) rfl ?hl ?hn ?h1 ?h63 ?hby ?hbase ?_)
      case hown => exact hown.out.alloc _
      case hl => rfl
      case hn => exact built_cells w4 _ _ _ hp.out
      case h1 => exact one_cb _
      case h63 => unfold maxLen; omega
      case hby => omega
      case hbase => have := G4.out.size; simp; omega
      intro v5 w5 hown5 hgr5 hne5
      rw [show xs.map cb ++ [cb (bt z.toNat)] = (xs ++ [bt z.toNat]).map cb from by simp] at hown5
      obtain ⟨q5, c5, hv5, hq5, hO5⟩ := own_row hown5 (by simpa using hne5)
      have hgr : w4.grownBy w5 (some q) := grown_of_alloc hgr5
      have R : Hd ((xs ++ [bt z.toNat]).length = n + 1 ∧ n + 1 ≤ 81 ∧ w.heap.size ≤ q5 ∧ Own w5 q5 c5 (xs ++ [bt z.toNat]) ∧ Cursor w5 g ao len cap bs ∧ w.grownBy w5 (some g)) := ⟨by have := HN.out; simp; omega, by omega, hq5, hO5, C4.out.kept (fun k hk => hgr.block k (by have := C4.out.lt; omega) (by have := Q2.out; have := Hlt.out; simp; omega)), by
        refine ⟨hgr.os.trans G4.out.os, hgr.tape.trans G4.out.tape, hgr.output.trans G4.out.output, Nat.le_trans G4.out.size hgr.size, fun k hk hne => ?_⟩
        exact (hgr.block k (by have := G4.out.size; omega) (by have := Q2.out; simp; omega)).trans (G4.out.block k hk hne)⟩
      rw [hv5]
      clear hown5 hgr5 hne5 hv5 hq5 hO5 hgr hown C4 G4 O4
      go_wp2_with fail
      go_ret
      exact ⟨q5, n + 1, c5, xs ++ [bt z.toNat], rfl, R.out⟩
    · have e0 : ((x : Int) == 0) = false := by simp; omega
      have e1 : ((x : Int) == 1) = false := by simp; omega
      have R : Hd (xs.length = n ∧ n ≤ 81 ∧ w.heap.size ≤ q ∧ Own w3 q c xs ∧ Cursor w3 g ao len cap bs ∧ w.grownBy w3 (some g)) := ⟨HN.out, by omega, Q2.out, O3.out, C3.out, G3.out⟩
      clear C3 G3 O3
      go_wp2_with fail
      go_ret
      exact ⟨q, n, c, xs, rfl, R.out⟩

/-- A number and bytes; a number and a text. -/
structure DrawnIntBytes (w : World) (e : Ending) (w' : World) : Prop where
  out : ∃ (z : Int) (q m c : Nat) (ds : List UInt8), e = .returned (.tuple #[.int .i64 z, .slice (some ⟨q, 0, none⟩) m c]) ∧ ds.length = m ∧ m ≤ 81 ∧ w.heap.size ≤ q ∧ Own w' q c ds ∧ Below w.heap.size w w'
structure DrawnIntText (w : World) (e : Ending) (w' : World) : Prop where
  out : ∃ (z : Int) (s : ByteArray), e = .returned (.tuple #[.int .i64 z, .string s]) ∧ s.size ≤ 28 ∧ Below w.heap.size w w'

set_option maxHeartbeats 400000 in
theorem drawDecode_any (ao : Option Addr) (len cap : Nat) (bs : List UInt8) (w : World) (hl : len ≤ 1073741824) (hr : Reads w ao len bs) :
    Calls Tryd.prog 10 #[.slice ao len cap] w (DrawnIntBytes w) := by
  have H : Hd (Reads w ao len bs) := ⟨hr⟩
  clear hr
  go_enter Tryd.func10, Tryd.ntmps10
  go_wp2_with fail
  refine (l1New_any ao len cap bs _ hl H.out).mono ?_
  rintro e w1 ⟨rfl, hC1, hB1⟩
  have C1 : Hd (Cursor w1 w.heap.size ao len cap bs) := ⟨hC1⟩
  have B1 : Hd (Below w.heap.size w w1) := ⟨hB1⟩
  clear hC1 hB1
  go_wp2_with fail
  refine (l3Any_any w.heap.size ao len cap bs _ hl C1.out).mono ?_
  rintro e w2 ⟨z, rfl, _, hC2, hG2⟩
  have C2 : Hd (Cursor w2 w.heap.size ao len cap bs) := ⟨hC2⟩
  have B2 : Hd (Below w.heap.size w w2) := ⟨below_grows B1.out hG2 B1.out.size (Nat.le_refl _)⟩
  clear hC2 hG2 C1 B1
  go_wp2_with fail
  refine (l5Bytes_any z w.heap.size ao len cap bs _ hl C2.out).mono ?_
  rintro e w3 ⟨q, m, c, ds, rfl, d1, d2, d3, d4, d5, d6⟩
  have R : Hd (ds.length = m ∧ m ≤ 81 ∧ w.heap.size ≤ q ∧ Own w3 q c ds ∧ Below w.heap.size w w3) := ⟨d1, d2, by have := B2.out.size; omega, d4, below_grows B2.out d6 B2.out.size (Nat.le_refl _)⟩
  clear d1 d2 d3 d4 d5 d6 C2 B2
  go_wp2_with fail
  go_ret2
  exact ⟨z, q, m, c, ds, rfl, R.out⟩

set_option maxHeartbeats 400000 in
theorem drawDecodeLossy_any (ao : Option Addr) (len cap : Nat) (bs : List UInt8) (w : World) (hl : len ≤ 1073741824) (hr : Reads w ao len bs) :
    Calls Tryd.prog 20 #[.slice ao len cap] w (DrawnIntBytes w) := by
  have H : Hd (Reads w ao len bs) := ⟨hr⟩
  clear hr
  go_enter Tryd.func20, Tryd.ntmps20
  go_wp2_with fail
  refine (drawDecode_any ao len cap bs _ hl H.out).mono ?_
  rintro e w3 ⟨z, q, m, c, ds, rfl, r⟩
  have R : Hd (ds.length = m ∧ m ≤ 81 ∧ w.heap.size ≤ q ∧ Own w3 q c ds ∧ Below w.heap.size w w3) := ⟨r⟩
  clear r
  go_wp2_with fail
  go_ret2
  exact ⟨z, q, m, c, ds, rfl, R.out⟩

theorem tail_in : ∀ z ∈ ([⟨#[195, 169]⟩, ⟨#[226, 130, 172]⟩, ⟨#[255]⟩, ⟨#[208, 176]⟩] : List ByteArray), z.size ≤ 4 := by
  intro z hz
  simp only [List.mem_cons, List.not_mem_nil, or_false] at hz
  rcases hz with rfl | rfl | rfl | rfl <;> decide

set_option maxHeartbeats 1000000 in
theorem drawEncode_any (ao : Option Addr) (len cap : Nat) (bs : List UInt8) (w : World) (hl : len ≤ 1073741824) (hr : Reads w ao len bs) :
    Calls Tryd.prog 13 #[.slice ao len cap] w (DrawnIntText w) := by
  have H : Hd (Reads w ao len bs) := ⟨hr⟩
  clear hr
  go_enter Tryd.func13, Tryd.ntmps13
  go_wp2_with fail
  refine (l1New_any ao len cap bs _ hl H.out).mono ?_
  rintro e w1 ⟨rfl, hC1, hB1⟩
  have C1 : Hd (Cursor w1 w.heap.size ao len cap bs) := ⟨hC1⟩
  have B1 : Hd (Below w.heap.size w w1) := ⟨hB1⟩
  clear hC1 hB1
  go_wp2_with fail
  refine (l3Any_any w.heap.size ao len cap bs _ hl C1.out).mono ?_
  rintro e w2 ⟨z, rfl, _, hC2, hG2⟩
  have C2 : Hd (Cursor w2 w.heap.size ao len cap bs) := ⟨hC2⟩
  have B2 : Hd (Below w.heap.size w w2) := ⟨below_grows B1.out hG2 B1.out.size (Nat.le_refl _)⟩
  clear hC2 hG2 C1 B1
  go_wp2_with fail
  refine (l5Text_any z w.heap.size ao len cap bs 5 _ hl (by omega) C2.out).mono ?_
  rintro e w3 ⟨s, rfl, hs, hC3, hG3⟩
  have C3 : Hd (Cursor w3 w.heap.size ao len cap bs) := ⟨hC3⟩
  have B3 : Hd (Below w.heap.size w w3) := ⟨below_grows B2.out hG3 B2.out.size (Nat.le_refl _)⟩
  clear hC3 hG3 C2 B2
  go_wp2_with fail
  refine (l1Below_any w.heap.size ao len cap bs 4 _ hl (by omega) (by omega) C3.out).mono ?_
  rintro e w4 ⟨x, hx, rfl, hC4, hG4⟩
  have C4 : Hd (Cursor w4 w.heap.size ao len cap bs) := ⟨hC4⟩
  have B4 : Hd (Below w.heap.size w w4) := ⟨below_grows B3.out hG4 B3.out.size (Nat.le_refl _)⟩
  clear hC4 hG4 C3 B3
  by_cases x0 : x = 0
  · subst x0
    go_wp2_with fail
    refine (l2Bent_any w.heap.size ao len cap bs _ hl C4.out).mono ?_
    rintro e w5 ⟨u, rfl, hu, hC5, hG5⟩
    have B5 : Hd (Below w.heap.size w w5) := ⟨below_grows B4.out hG5 B4.out.size (Nat.le_refl _)⟩
    have HU : Hd (u.size ≤ 28) := ⟨hu⟩
    clear hC5 hG5 hu C4 B4
    go_wp2_with fail
    go_ret2
    exact ⟨z, u, rfl, HU.out, B5.out⟩
  · by_cases x1 : x = 1
    · subst x1
      have hlt4 := C4.out.lt
      go_wp2_with fail
      refine (l1Str_any w.heap.size w4.heap.size 4 4 ao len cap bs [⟨#[195, 169]⟩, ⟨#[226, 130, 172]⟩, ⟨#[255]⟩, ⟨#[208, 176]⟩] _ hl (by omega) (by omega) rfl (by omega) ?cells (C4.out.below (below_lit _ _))).mono ?_
      case cells => exact lit_strs w4 [⟨#[195, 169]⟩, ⟨#[226, 130, 172]⟩, ⟨#[255]⟩, ⟨#[208, 176]⟩] _
      rintro e w5 ⟨u, hu, rfl, hC5, hG5⟩
      have B5 : Hd (Below w.heap.size w w5) := ⟨below_grows B4.out (grown_of_alloc hG5) B4.out.size (Nat.le_refl _)⟩
      have hu4 := tail_in u hu
      have HU : Hd ((s ++ u).size ≤ 28) := ⟨by rw [ByteArray.size_append]; omega⟩
      clear hC5 hG5 hu C4 B4 hlt4
      go_wp2_with fail
      go_ret2
      exact ⟨z, s ++ u, rfl, HU.out, B5.out⟩
    · have e0 : ((x : Int) == 0) = false := by simp; omega
      have e1 : ((x : Int) == 1) = false := by simp; omega
      have HU : Hd (s.size ≤ 28) := ⟨by omega⟩
      clear C4
      go_wp2_with fail
      go_ret2
      exact ⟨z, s, rfl, HU.out, B4.out⟩

set_option maxHeartbeats 400000 in
theorem drawEncodeLossy_any (ao : Option Addr) (len cap : Nat) (bs : List UInt8) (w : World) (hl : len ≤ 1073741824) (hr : Reads w ao len bs) :
    Calls Tryd.prog 23 #[.slice ao len cap] w (DrawnIntText w) := by
  have H : Hd (Reads w ao len bs) := ⟨hr⟩
  clear hr
  go_enter Tryd.func23, Tryd.ntmps23
  go_wp2_with fail
  refine (drawEncode_any ao len cap bs _ hl H.out).mono ?_
  rintro e w3 ⟨z, s, rfl, r⟩
  have R : Hd (s.size ≤ 28 ∧ Below w.heap.size w w3) := ⟨r⟩
  clear r
  go_wp2_with fail
  go_ret2
  exact ⟨z, s, rfl, R.out⟩

set_option maxHeartbeats 400000 in
theorem drawFits_any (ao : Option Addr) (len cap : Nat) (bs : List UInt8) (w : World) (hl : len ≤ 1073741824) (hr : Reads w ao len bs) :
    Calls Tryd.prog 16 #[.slice ao len cap] w (DrawnIntText w) := by
  have H : Hd (Reads w ao len bs) := ⟨hr⟩
  clear hr
  go_enter Tryd.func16, Tryd.ntmps16
  go_wp2_with fail
  refine (drawEncode_any ao len cap bs _ hl H.out).mono ?_
  rintro e w3 ⟨z, s, rfl, r⟩
  have R : Hd (s.size ≤ 28 ∧ Below w.heap.size w w3) := ⟨r⟩
  clear r
  go_wp2_with fail
  go_ret2
  exact ⟨z, s, rfl, R.out⟩

end Go.Proofs.YtcddjfdmodpnjaaDoor
