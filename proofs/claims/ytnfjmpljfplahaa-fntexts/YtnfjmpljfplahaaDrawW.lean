/- Contracts of what the laws of signs draw: the arguments of each function. -/
import Derived.Test.YtnfjmpljfplahaaDrawV
namespace Go.Proofs.Ytnfjmpljfplahaa
open Go.RowKit

structure DrawnInt (w : World) (e : Ending) (w' : World) : Prop where
  out : ∃ z : Int, e = .returned (.int .i64 z) ∧ Below w.heap.size w w'
structure DrawnText (w : World) (e : Ending) (w' : World) : Prop where
  out : ∃ s : ByteArray, e = .returned (.string s) ∧ s.size ≤ 28 ∧ Below w.heap.size w w'
/-- Some bytes, fewer than 4, and a number. -/
structure DrawnPut (w : World) (e : Ending) (w' : World) : Prop where
  out : ∃ (q n c : Nat) (ds : List UInt8) (z : Int), e = .returned (.tuple #[.slice (some ⟨q, 0, none⟩) n c, .int .i64 z]) ∧ ds.length = n ∧ n < 4 ∧ w.heap.size ≤ q ∧ Own w' q c ds ∧ Below w.heap.size w w'
/-- The bytes of a text, and a place. -/
structure DrawnGet (w : World) (e : Ending) (w' : World) : Prop where
  out : ∃ (q n c : Nat) (ds : List UInt8) (z : Int), e = .returned (.tuple #[.slice (some ⟨q, 0, none⟩) n c, .int .i64 z]) ∧ ds.length = n ∧ n ≤ 28 ∧ n ≤ c ∧ w.heap.size ≤ q ∧ q < w'.heap.size ∧ (∀ j, j < n → w'.cell? ⟨q, 0 + j, none⟩ = some (.int .u8 ((ds.getD j 0).toNat : Int))) ∧ Below w.heap.size w w'
/-- Some numbers, at most 5. -/
structure DrawnList (w : World) (e : Ending) (w' : World) : Prop where
  out : ∃ (q n c : Nat) (l : List Int), e = .returned (.slice (some ⟨q, 0, none⟩) n c) ∧ l.length = n ∧ n ≤ 5 ∧ w.heap.size ≤ q ∧ OwnI w' q c l ∧ Below w.heap.size w w'

set_option maxHeartbeats 400000 in
theorem drawSignOk_any (ao : Option Addr) (len cap : Nat) (bs : List UInt8) (w : World) (hl : len ≤ 1073741824) (hr : Reads w ao len bs) :
    Calls Try.prog 15 #[.slice ao len cap] w (DrawnInt w) := by
  have H : Hd (Reads w ao len bs) := ⟨hr⟩
  clear hr
  go_enter Try.func15, Try.ntmps15
  go_wp2_with fail
  refine (l1New_any ao len cap bs _ hl H.out).mono ?_
  rintro e w1 ⟨rfl, hC1, hB1⟩
  have C1 : Hd (Cursor w1 w.heap.size ao len cap bs) := ⟨hC1⟩
  have B1 : Hd (Below w.heap.size w w1) := ⟨hB1⟩
  clear hC1 hB1
  go_wp2_with fail
  refine (l2Any_any w.heap.size ao len cap bs _ hl C1.out).mono ?_
  rintro e w2 ⟨z, rfl, hC2, hG2⟩
  have B2 : Hd (Below w.heap.size w w2) := ⟨below_grows B1.out hG2 B1.out.size (Nat.le_refl _)⟩
  clear hC2 hG2 C1 B1
  go_wp2_with fail
  go_ret
  exact ⟨z, rfl, B2.out⟩

set_option maxHeartbeats 400000 in
theorem drawSigns_any (ao : Option Addr) (len cap : Nat) (bs : List UInt8) (w : World) (hl : len ≤ 1073741824) (hr : Reads w ao len bs) :
    Calls Try.prog 18 #[.slice ao len cap] w (DrawnText w) := by
  have H : Hd (Reads w ao len bs) := ⟨hr⟩
  clear hr
  go_enter Try.func18, Try.ntmps18
  go_wp2_with fail
  refine (l1New_any ao len cap bs _ hl H.out).mono ?_
  rintro e w1 ⟨rfl, hC1, hB1⟩
  have C1 : Hd (Cursor w1 w.heap.size ao len cap bs) := ⟨hC1⟩
  have B1 : Hd (Below w.heap.size w w1) := ⟨hB1⟩
  clear hC1 hB1
  go_wp2_with fail
  refine (l2Bent_any w.heap.size ao len cap bs _ hl C1.out).mono ?_
  rintro e w2 ⟨s, rfl, hs, hC2, hG2⟩
  have B2 : Hd (Below w.heap.size w w2) := ⟨below_grows B1.out hG2 B1.out.size (Nat.le_refl _)⟩
  have Hs : Hd (s.size ≤ 28) := ⟨hs⟩
  clear hC2 hG2 C1 B1 hs
  go_wp2_with fail
  go_ret
  exact ⟨s, rfl, Hs.out, B2.out⟩

set_option maxHeartbeats 400000 in
theorem drawUtf8Ok_any (ao : Option Addr) (len cap : Nat) (bs : List UInt8) (w : World) (hl : len ≤ 1073741824) (hr : Reads w ao len bs) :
    Calls Try.prog 22 #[.slice ao len cap] w (DrawnText w) := by
  have H : Hd (Reads w ao len bs) := ⟨hr⟩
  clear hr
  go_enter Try.func22, Try.ntmps22
  go_wp2_with fail
  refine (l1New_any ao len cap bs _ hl H.out).mono ?_
  rintro e w1 ⟨rfl, hC1, hB1⟩
  have C1 : Hd (Cursor w1 w.heap.size ao len cap bs) := ⟨hC1⟩
  have B1 : Hd (Below w.heap.size w w1) := ⟨hB1⟩
  clear hC1 hB1
  go_wp2_with fail
  refine (l2Bent_any w.heap.size ao len cap bs _ hl C1.out).mono ?_
  rintro e w2 ⟨s, rfl, hs, hC2, hG2⟩
  have B2 : Hd (Below w.heap.size w w2) := ⟨below_grows B1.out hG2 B1.out.size (Nat.le_refl _)⟩
  have Hs : Hd (s.size ≤ 28) := ⟨hs⟩
  clear hC2 hG2 C1 B1 hs
  go_wp2_with fail
  go_ret
  exact ⟨s, rfl, Hs.out, B2.out⟩

set_option maxHeartbeats 400000 in
theorem drawCount_any (ao : Option Addr) (len cap : Nat) (bs : List UInt8) (w : World) (hl : len ≤ 1073741824) (hr : Reads w ao len bs) :
    Calls Try.prog 23 #[.slice ao len cap] w (DrawnText w) := by
  have H : Hd (Reads w ao len bs) := ⟨hr⟩
  clear hr
  go_enter Try.func23, Try.ntmps23
  go_wp2_with fail
  refine (l1New_any ao len cap bs _ hl H.out).mono ?_
  rintro e w1 ⟨rfl, hC1, hB1⟩
  have C1 : Hd (Cursor w1 w.heap.size ao len cap bs) := ⟨hC1⟩
  have B1 : Hd (Below w.heap.size w w1) := ⟨hB1⟩
  clear hC1 hB1
  go_wp2_with fail
  refine (l2Bent_any w.heap.size ao len cap bs _ hl C1.out).mono ?_
  rintro e w2 ⟨s, rfl, hs, hC2, hG2⟩
  have B2 : Hd (Below w.heap.size w w2) := ⟨below_grows B1.out hG2 B1.out.size (Nat.le_refl _)⟩
  have Hs : Hd (s.size ≤ 28) := ⟨hs⟩
  clear hC2 hG2 C1 B1 hs
  go_wp2_with fail
  go_ret
  exact ⟨s, rfl, Hs.out, B2.out⟩

set_option maxHeartbeats 400000 in
theorem drawPutSign_any (ao : Option Addr) (len cap : Nat) (bs : List UInt8) (w : World) (hl : len ≤ 1073741824) (hr : Reads w ao len bs) :
    Calls Try.prog 10 #[.slice ao len cap] w (DrawnPut w) := by
  have H : Hd (Reads w ao len bs) := ⟨hr⟩
  clear hr
  go_enter Try.func10, Try.ntmps10
  go_wp2_with fail
  refine (l1New_any ao len cap bs _ hl H.out).mono ?_
  rintro e w1 ⟨rfl, hC1, hB1⟩
  have C1 : Hd (Cursor w1 w.heap.size ao len cap bs) := ⟨hC1⟩
  have B1 : Hd (Below w.heap.size w w1) := ⟨hB1⟩
  clear hC1 hB1
  go_wp2_with fail
  refine (l1Below_any w.heap.size ao len cap bs 4 _ hl (by omega) (by omega) C1.out).mono ?_
  rintro e w2 ⟨m, hm, rfl, hC2, hG2⟩
  have C2 : Hd (Cursor w2 w.heap.size ao len cap bs) := ⟨hC2⟩
  have B2 : Hd (Below w.heap.size w w2) := ⟨below_grows B1.out hG2 B1.out.size (Nat.le_refl _)⟩
  clear hC2 hG2 C1 B1
  go_wp2_with fail
  refine (l1Bytes_any w.heap.size ao len cap bs m _ hl (by omega) C2.out).mono ?_
  rintro e w3 ⟨q, c, ds, rfl, hds, hq, hO, hC3, hG3⟩
  have C3 : Hd (Cursor w3 w.heap.size ao len cap bs) := ⟨hC3⟩
  have B3 : Hd (Below w.heap.size w w3) := ⟨below_grows B2.out hG3 B2.out.size (Nat.le_refl _)⟩
  have O3 : Hd (Own w3 q c ds) := ⟨hO⟩
  have D3 : Hd (ds.length = m) := ⟨hds⟩
  have q3 : Hd (w.heap.size < q) := ⟨by have := C2.out.lt; omega⟩
  clear hC3 hG3 hO hds hq C2 B2
  go_wp2_with fail
  refine (l2Any_any w.heap.size ao len cap bs _ hl C3.out).mono ?_
  rintro e w4 ⟨z, rfl, hC4, hG4⟩
  have B4 : Hd (Below w.heap.size w w4) := ⟨below_grows B3.out hG4 B3.out.size (Nat.le_refl _)⟩
  have O4 : Hd (Own w4 q c ds) := ⟨O3.out.grown hG4 (by have := q3.out; omega)⟩
  have Hm : Hd (m < 4) := ⟨hm⟩
  clear hC4 hG4 C3 B3 O3
  go_wp2_with fail
  go_ret2
  exact ⟨q, m, c, ds, z, rfl, D3.out, Hm.out, Nat.le_of_lt q3.out, O4.out, B4.out⟩

set_option maxHeartbeats 400000 in
theorem drawGetSign_any (ao : Option Addr) (len cap : Nat) (bs : List UInt8) (w : World) (hl : len ≤ 1073741824) (hr : Reads w ao len bs) :
    Calls Try.prog 12 #[.slice ao len cap] w (DrawnGet w) := by
  have H : Hd (Reads w ao len bs) := ⟨hr⟩
  clear hr
  go_enter Try.func12, Try.ntmps12
  go_wp2_with fail
  refine (l1New_any ao len cap bs _ hl H.out).mono ?_
  rintro e w1 ⟨rfl, hC1, hB1⟩
  have C1 : Hd (Cursor w1 w.heap.size ao len cap bs) := ⟨hC1⟩
  have B1 : Hd (Below w.heap.size w w1) := ⟨hB1⟩
  clear hC1 hB1
  go_wp2_with fail
  refine (l2Bent_any w.heap.size ao len cap bs _ hl C1.out).mono ?_
  rintro e w2 ⟨s, rfl, hs, hC2, hG2⟩
  have C2 : Hd (Cursor w2 w.heap.size ao len cap bs) := ⟨hC2⟩
  have B2 : Hd (Below w.heap.size w w2) := ⟨below_grows B1.out hG2 B1.out.size (Nat.le_refl _)⟩
  clear hC2 hG2 C1 B1
  obtain ⟨cp, W, hcv, hby⟩ := conv_string s w2
  have C3 : Hd (Cursor W w.heap.size ao len cap bs) := ⟨C2.out.below hby.bel⟩
  have B3 : Hd (Below w.heap.size w W) := ⟨Below.next B2.out hby.bel⟩
  have Hb : Hd (Bytes w2 W s cp) := ⟨hby⟩
  have Hs : Hd (s.size ≤ 28 ∧ w.heap.size < w2.heap.size) := ⟨hs, C2.out.lt⟩
  clear hby C2 B2
  go_wp2_with fail
  refine (l1At_any w.heap.size ao len cap bs _ s.size cp _ hl (by omega) C3.out).mono ?_
  rintro e w3 ⟨z, rfl, hC4, hG4⟩
  have B4 : Hd (Below w.heap.size w w3) := ⟨below_grows B3.out hG4 B3.out.size (Nat.le_refl _)⟩
  have Hc : Hd (∀ j, j < s.size → w3.cell? ⟨w2.heap.size, 0 + j, none⟩ = some (.int .u8 ((s.data.toList.getD j 0).toNat : Int))) := ⟨fun j hj => hG4.cell (Hb.out.cell j hj) (by have := Hs.out; simp; omega)⟩
  have Hq : Hd (w2.heap.size < w3.heap.size) := ⟨by have := hG4.size; have := Hb.out.size; omega⟩
  clear hC4 hG4 C3 B3 hcv
  go_wp2_with fail
  go_ret2
  exact ⟨w2.heap.size, s.size, cp, s.data.toList, z, rfl, by rw [Array.length_toList]; rfl, Hs.out.1, Hb.out.cap, Nat.le_of_lt Hs.out.2, Hq.out, Hc.out, B4.out⟩

structure ListAt (w : World) (g : Nat) (ao : Option Addr) (len cap : Nat) (bs : List UInt8) (j q c n : Nat) (wr : World) : Prop where
  out : ∃ l : List Int, l.length = n ∧ n + j ≤ 5 ∧ g < q ∧ OwnI wr q c l ∧ Cursor wr g ao len cap bs ∧ Below g w wr

set_option maxHeartbeats 1000000 in
theorem drawTextOf_any (ao : Option Addr) (len cap : Nat) (bs : List UInt8) (w : World) (hl : len ≤ 1073741824) (hr : Reads w ao len bs) :
    Calls Try.prog 20 #[.slice ao len cap] w (DrawnList w) := by
  obtain ⟨i0, hi, hz0, hz1, hz2⟩ := info_parts info64
  have H : Hd (Reads w ao len bs) := ⟨hr⟩
  clear hr
  go_enter Try.func20, Try.ntmps20
  go_wp2_with fail
  refine (l1New_any ao len cap bs _ hl H.out).mono ?_
  rintro e w1 ⟨rfl, hC1, hB1⟩
  have C1 : Hd (Cursor w1 w.heap.size ao len cap bs) := ⟨hC1⟩
  have B1 : Hd (Below w.heap.size w w1) := ⟨hB1⟩
  clear hC1 hB1
  go_wp2_with fail
  refine (l1Below_any w.heap.size ao len cap bs 6 _ hl (by omega) (by omega) (C1.out.below ((Below.refl _ w1).alloc (Nat.le_refl _) _))).mono ?_
  rintro e w2 ⟨x, hx, rfl, hC2, hG2⟩
  have T2 : Hd (ListAt w w.heap.size ao len cap bs x w1.heap.size 0 0 w2) := ⟨by
    have h1 := C1.out.lt
    have hO : OwnI (w1.alloc (.cells #[] 3)) w1.heap.size 0 [] := ⟨#[], heap_alloc_new w1 _, by simp, Nat.zero_le _, rfl, by simp⟩
    exact ⟨[], rfl, by omega, h1, hO.grown hG2 (by omega), hC2, below_grows B1.out (grown_of_alloc hG2) B1.out.size (Nat.le_refl _)⟩⟩
  clear hC2 hG2 C1 B1
  go_wp2_with fail
  go_loopw [4, 5] (fun v i wr => ∃ (j q c n : Nat), i = .int .i64 j ∧ v = .slice (some ⟨q, 0, none⟩) n c ∧ Hd (ListAt w w.heap.size ao len cap bs j q c n wr)) (fun _ i _ => (intOf i).toNat)
  case atStart => exact ⟨x, w1.heap.size, 0, 0, rfl, rfl, T2⟩
  case round =>
    clear T2
    obtain ⟨j, q, c, n, rfl, rfl, T⟩ := hrel
    have hj : n + j ≤ 5 := by obtain ⟨ds, _, h2, _⟩ := T.out; omega
    by_cases h0 : 0 < j
    · have hjI : (0 : Int) < (j : Int) := by omega
      have C3 : Hd (Cursor wr w.heap.size ao len cap bs) := ⟨by obtain ⟨ds, _, _, _, _, h5, _⟩ := T.out; exact h5⟩
      go_wp2_with fail
      refine (l2Any_any w.heap.size ao len cap bs _ hl C3.out).mono ?_
      rintro e w3 ⟨z, rfl, hC4, hG4⟩
      obtain ⟨l, d1, d2, d3, d4, d5, d6⟩ := T.out
      have O4 : Hd (OwnI w3 q c l) := ⟨d4.grown hG4 (by omega)⟩
      have C4 : Hd (Cursor w3 w.heap.size ao len cap bs) := ⟨hC4⟩
      have B4 : Hd (Below w.heap.size w w3) := ⟨below_grows d6 hG4 (by have := d5.lt; omega) (Nat.le_refl _)⟩
      have D1 : Hd (l.length = n) := ⟨d1⟩
      have D3 : Hd (w.heap.size < q) := ⟨d3⟩
      clear hC4 hG4 d1 d2 d3 d4 d5 d6 T C3
      have Ho : Hd (w3.ownsRow q 3 1 (.slice (some ⟨q, 0, none⟩) n c) n (l.map ci)) := ⟨O4.out.owns D1.out (Nat.le_refl _)⟩
      have hql : Hd (q < w3.heap.size) := ⟨O4.out.lt⟩
      go_wp2_with (at_builtin; refine wpList_append_own _ rfl (.tmp 15) (.tmp 18) 32 rfl q 3 i0 (.int .i64 0) 1 8 Try.underlying32 hi hz0 hz1 hz2 rfl (by decide) _ n (l.map ci) rfl ?hown ⟨w3.heap.size, 0, none⟩ 1 1 [.int .i64 z] rfl ?hl ?hn ?h1 ?h63 ?hby ?hbase ?_)
      case hown => exact Ho.out.alloc _
      case hl => rfl
      case hn => exact built_cells w3 _ _ _ rfl
      case h1 => intro u hu; simp at hu; subst hu; rfl
      case h63 => unfold maxLen; omega
      case hby => omega
      case hbase => have := hql.out; simp; omega
      intro v5 w5 hown5 hgr5 hne5
      have e5 : l.map ci ++ [.int .i64 z] = (l ++ [z]).map ci := by rw [List.map_append]; rfl
      rw [e5] at hown5
      obtain ⟨q5, c5, hv5, hq5, hO5⟩ := own_rowI hown5 (by simpa using hne5)
      have hG5 : w3.grownBy w5 (some q) := grown_of_alloc hgr5
      have T5 : Hd (ListAt w w.heap.size ao len cap bs (j - 1) q5 c5 (n + 1) w5) := ⟨⟨l ++ [z], by rw [List.length_append, D1.out]; rfl, by omega, by have := D3.out; omega, hO5, C4.out.kept (fun k hk => hG5.block k (by have := C4.out.lt; omega) (by have := D3.out; simp; omega)), B4.out.grown hG5 B4.out.size (fun k hk => by simp at hk; have := D3.out; omega)⟩⟩
      rw [hv5]
      clear hown5 hgr5 hne5 e5 hv5 hq5 hO5 hG5 O4 C4 B4 Ho D1
      go_wp2_with fail
      go_roundw
      case rel => exact ⟨j - 1, q5, c5, n + 1, by go_num, rfl, T5⟩
      case measure => simp [intOf]; omega
    · have hjI : ¬ (0 : Int) < (j : Int) := by omega
      go_wp2_with fail
      go_ret
      obtain ⟨l, d1, d2, d3, d4, d5, d6⟩ := T.out
      exact ⟨q, n, c, l, rfl, d1, by omega, Nat.le_of_lt d3, d4, d6⟩

end Go.Proofs.Ytnfjmpljfplahaa
