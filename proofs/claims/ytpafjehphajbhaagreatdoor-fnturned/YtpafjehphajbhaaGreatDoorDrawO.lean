/- The contract of DrawRowOf; that of sameRow. -/
import Derived.Test.YtpafjehphajbhaaGreatDoorDrawQ
import Derived.Test.YtpafjehphajbhaaGreatDoorCellN
namespace Go.Proofs.YtpafjehphajbhaaGreatDoor
set_option maxRecDepth 4000
open Go.RowKit

theorem results_tmp4 {fn : Func} {t u v x : Tmp} (h : fn.results = #[.tmp t, .tmp u, .tmp v, .tmp x]) (tmps : Array Value) (P : Program) (w : World) :
    (results fn tmps).run P w = .ok (.tuple #[tmps.getD t undef, tmps.getD u undef, tmps.getD v undef, tmps.getD x undef]) w := by
  simp [results, h]
/-- A phase, a key, a set and a text are drawn. -/
structure RowArgs (w : World) (e : Ending) (w' : World) : Prop where
  out : ∃ (p : Int) (k : ByteArray) (cs : Int) (s : ByteArray), e = .returned (.tuple #[.int .i64 p, .string k, .int .i64 cs, .string s]) ∧ k.size ≤ 7 ∧ s.size ≤ 28 ∧ Below w.heap.size w w'

set_option maxHeartbeats 4000000 in
theorem drawRowOf_any (ao : Option Addr) (len cap : Nat) (bs : List UInt8) (w : World) (hl : len ≤ 1073741824) (hr : Reads w ao len bs) :
    Calls Tryz.prog 6 #[.slice ao len cap] w (RowArgs w) := by
  have H : Hd (Reads w ao len bs) := ⟨hr⟩
  clear hr
  go_enter Tryz.func6, Tryz.ntmps6
  go_wp2_with fail
  refine (l1New_any ao len cap bs _ hl H.out).mono ?_
  rintro e w1 ⟨rfl, hC1, hB1⟩
  have C1 : Hd (Cursor w1 w.heap.size ao len cap bs) := ⟨hC1⟩
  have B1 : Hd (Below w.heap.size w w1) := ⟨hB1⟩
  clear hC1 hB1 H
  go_wp2_with fail
  refine (l3Any_any w.heap.size ao len cap bs _ hl C1.out).mono ?_
  rintro e w2 ⟨z, rfl, _, hC, hG⟩
  have C2 : Hd (Cursor w2 w.heap.size ao len cap bs) := ⟨hC⟩
  have B2 : Hd (Below w.heap.size w w2) := ⟨below_grows B1.out hG B1.out.size (Nat.le_refl _)⟩
  clear hC hG C1 B1
  go_wp2_with fail
  refine (l1Name_any w.heap.size ao len cap bs _ hl C2.out).mono ?_
  rintro e w3 ⟨key, rfl, _, hks, hC, hG⟩
  have C3 : Hd (Cursor w3 w.heap.size ao len cap bs) := ⟨hC⟩
  have B3 : Hd (Below w.heap.size w w3) := ⟨below_grows B2.out hG B2.out.size (Nat.le_refl _)⟩
  have HK : Hd (key.size ≤ 7) := ⟨hks⟩
  clear hks
  clear hC hG C2 B2
  go_wp2_with fail
  refine (l1Once_any w.heap.size ao len cap bs 8 _ hl (by omega) (by omega) C3.out).mono ?_
  rintro e w4 ⟨b, rfl, hC, hG⟩
  have C4 : Hd (Cursor w4 w.heap.size ao len cap bs) := ⟨hC⟩
  have B4 : Hd (Below w.heap.size w w4) := ⟨below_grows B3.out hG B3.out.size (Nat.le_refl _)⟩
  clear hC hG C3 B3
  cases b with
  | true =>
    go_wp2_with fail
    refine (l1Text_any w.heap.size ao len cap bs _ hl C4.out).mono ?_
    rintro e w5 ⟨t, rfl, ht, hC, hG⟩
    have C5 : Hd (Cursor w5 w.heap.size ao len cap bs) := ⟨hC⟩
    have B5 : Hd (Below w.heap.size w w5) := ⟨below_grows B4.out hG B4.out.size (Nat.le_refl _)⟩
    have HT : Hd (t.size ≤ 7) := ⟨ht⟩
    clear ht
    clear hC hG C4 B4
    go_wp2_with fail
    refine (l1Int_any w.heap.size w5.heap.size 3 3 ao len cap bs [z, z, 0] _ hl (by omega) (by omega) rfl (by have := C5.out.lt; omega) ?cells (C5.out.below (below_lit w5 _))).mono ?_
    case cells => exact lit_ints w5 [z, z, 0] _
    rintro e w6 ⟨zi, _, rfl, hC, hG⟩
    have C6 : Hd (Cursor w6 w.heap.size ao len cap bs) := ⟨hC⟩
    have B6 : Hd (Below w.heap.size w w6) := ⟨below_grows (Below.next B5.out (below_lit w5 _)) hG (by have := B5.out.size; simp; omega) (Nat.le_refl _)⟩
    clear hC hG C5 B5
    go_wp2_with fail
    refine (l5Text_any zi w.heap.size ao len cap bs 6 _ hl (by omega) C6.out).mono ?_
    rintro e w7 ⟨s, rfl, hs, hC, hG⟩
    have C7 : Hd (Cursor w7 w.heap.size ao len cap bs) := ⟨hC⟩
    have B7 : Hd (Below w.heap.size w w7) := ⟨below_grows B6.out hG B6.out.size (Nat.le_refl _)⟩
    have HS : Hd (s.size ≤ 28) := ⟨by omega⟩
    clear hs
    clear hC hG C6 B6
    go_wp2_with fail
    refine (l1Once_any w.heap.size ao len cap bs 6 _ hl (by omega) (by omega) C7.out).mono ?_
    rintro e w8 ⟨b2, rfl, hC, hG⟩
    have C8 : Hd (Cursor w8 w.heap.size ao len cap bs) := ⟨hC⟩
    have B8 : Hd (Below w.heap.size w w8) := ⟨below_grows B7.out hG B7.out.size (Nat.le_refl _)⟩
    clear hC hG C7 B7
    cases b2 with
    | true =>
      go_wp2_with fail
      refine (l2Bent_any w.heap.size ao len cap bs _ hl C8.out).mono ?_
      rintro e w9 ⟨s2, rfl, hs, hC, hG⟩
      have C9 : Hd (Cursor w9 w.heap.size ao len cap bs) := ⟨hC⟩
      have B9 : Hd (Below w.heap.size w w9) := ⟨below_grows B8.out hG B8.out.size (Nat.le_refl _)⟩
      have HS2 : Hd (s2.size ≤ 28) := ⟨hs⟩
      clear hs
      clear hC hG C8 B8
      go_wp2_with fail
      refine (l1Below_any w.heap.size ao len cap bs 10 _ hl (by omega) (by omega) C9.out).mono ?_
      rintro e w10 ⟨y, hy, rfl, hC, hG⟩
      have C10 : Hd (Cursor w10 w.heap.size ao len cap bs) := ⟨hC⟩
      have B10 : Hd (Below w.heap.size w w10) := ⟨below_grows B9.out hG B9.out.size (Nat.le_refl _)⟩
      clear hy
      clear hC hG C9 B9
      go_wp2_with fail
      (try simp only [Exit.inBlock, Exit.then])
      refine bodyPost_ret (results_tmp4 rfl _ _ _) rfl ?_
      exact ⟨_, t, z, s2, rfl, HT.out, HS2.out, B10.out⟩
    | false =>
      go_wp2_with fail
      refine (l1Below_any w.heap.size ao len cap bs 10 _ hl (by omega) (by omega) C8.out).mono ?_
      rintro e w9 ⟨y, hy, rfl, hC, hG⟩
      have C9 : Hd (Cursor w9 w.heap.size ao len cap bs) := ⟨hC⟩
      have B9 : Hd (Below w.heap.size w w9) := ⟨below_grows B8.out hG B8.out.size (Nat.le_refl _)⟩
      clear hy
      clear hC hG C8 B8
      go_wp2_with fail
      (try simp only [Exit.inBlock, Exit.then])
      refine bodyPost_ret (results_tmp4 rfl _ _ _) rfl ?_
      exact ⟨_, t, z, s, rfl, HT.out, HS.out, B9.out⟩
  | false =>
    go_wp2_with fail
    refine (l1Int_any w.heap.size w4.heap.size 3 3 ao len cap bs [z, z, 0] _ hl (by omega) (by omega) rfl (by have := C4.out.lt; omega) ?cells (C4.out.below (below_lit w4 _))).mono ?_
    case cells => exact lit_ints w4 [z, z, 0] _
    rintro e w5 ⟨zi, _, rfl, hC, hG⟩
    have C5 : Hd (Cursor w5 w.heap.size ao len cap bs) := ⟨hC⟩
    have B5 : Hd (Below w.heap.size w w5) := ⟨below_grows (Below.next B4.out (below_lit w4 _)) hG (by have := B4.out.size; simp; omega) (Nat.le_refl _)⟩
    clear hC hG C4 B4
    go_wp2_with fail
    refine (l5Text_any zi w.heap.size ao len cap bs 6 _ hl (by omega) C5.out).mono ?_
    rintro e w6 ⟨s, rfl, hs, hC, hG⟩
    have C6 : Hd (Cursor w6 w.heap.size ao len cap bs) := ⟨hC⟩
    have B6 : Hd (Below w.heap.size w w6) := ⟨below_grows B5.out hG B5.out.size (Nat.le_refl _)⟩
    have HS : Hd (s.size ≤ 28) := ⟨by omega⟩
    clear hs
    clear hC hG C5 B5
    go_wp2_with fail
    refine (l1Once_any w.heap.size ao len cap bs 6 _ hl (by omega) (by omega) C6.out).mono ?_
    rintro e w7 ⟨b2, rfl, hC, hG⟩
    have C7 : Hd (Cursor w7 w.heap.size ao len cap bs) := ⟨hC⟩
    have B7 : Hd (Below w.heap.size w w7) := ⟨below_grows B6.out hG B6.out.size (Nat.le_refl _)⟩
    clear hC hG C6 B6
    cases b2 with
    | true =>
      go_wp2_with fail
      refine (l2Bent_any w.heap.size ao len cap bs _ hl C7.out).mono ?_
      rintro e w8 ⟨s2, rfl, hs, hC, hG⟩
      have C8 : Hd (Cursor w8 w.heap.size ao len cap bs) := ⟨hC⟩
      have B8 : Hd (Below w.heap.size w w8) := ⟨below_grows B7.out hG B7.out.size (Nat.le_refl _)⟩
      have HS2 : Hd (s2.size ≤ 28) := ⟨hs⟩
      clear hs
      clear hC hG C7 B7
      go_wp2_with fail
      refine (l1Below_any w.heap.size ao len cap bs 10 _ hl (by omega) (by omega) C8.out).mono ?_
      rintro e w9 ⟨y, hy, rfl, hC, hG⟩
      have C9 : Hd (Cursor w9 w.heap.size ao len cap bs) := ⟨hC⟩
      have B9 : Hd (Below w.heap.size w w9) := ⟨below_grows B8.out hG B8.out.size (Nat.le_refl _)⟩
      clear hy
      clear hC hG C8 B8
      go_wp2_with fail
      (try simp only [Exit.inBlock, Exit.then])
      refine bodyPost_ret (results_tmp4 rfl _ _ _) rfl ?_
      exact ⟨_, key, z, s2, rfl, HK.out, HS2.out, B9.out⟩
    | false =>
      go_wp2_with fail
      refine (l1Below_any w.heap.size ao len cap bs 10 _ hl (by omega) (by omega) C7.out).mono ?_
      rintro e w8 ⟨y, hy, rfl, hC, hG⟩
      have C8 : Hd (Cursor w8 w.heap.size ao len cap bs) := ⟨hC⟩
      have B8 : Hd (Below w.heap.size w w8) := ⟨below_grows B7.out hG B7.out.size (Nat.le_refl _)⟩
      clear hy
      clear hC hG C7 B7
      go_wp2_with fail
      (try simp only [Exit.inBlock, Exit.then])
      refine bodyPost_ret (results_tmp4 rfl _ _ _) rfl ?_
      exact ⟨_, key, z, s, rfl, HK.out, HS.out, B8.out⟩

set_option maxHeartbeats 2000000 in
theorem sameRow_true (k : ByteArray) (t1 : Int) (a1 : Option Addr) (n1 c1 : Nat) (t2 : Int) (a2 : Option Addr) (n2 c2 : Nat) (has : Int) (asd : Bool) (e1 : Option Addr) (m1 d1 : Nat) (e2 : Option Addr) (m2 d2 : Nat) (b1 b2 : List UInt8) (w : World) (h1 : CellAt w a1 n1 c1 b1) (h2 : CellAt w a2 n2 c2 b2) (h3 : CellAt w e1 m1 d1 b1) (h4 : CellAt w e2 m2 d2 b2) :
    Calls Tryz.prog 9 #[.agg #[.string k, .int .i64 t1, .slice a1 n1 c1, .int .i64 t2, .slice a2 n2 c2, .int .i64 has, .bool asd], .agg #[.string k, .int .i64 t1, .slice e1 m1 d1, .int .i64 t2, .slice e2 m2 d2, .int .i64 has, .bool asd]] w fun e w' => e = .returned (.bool true) ∧ Below w.heap.size w w' := by
  have H1 : Hd (CellAt w a1 n1 c1 b1) := ⟨h1⟩
  have H2 : Hd (CellAt w a2 n2 c2 b2) := ⟨h2⟩
  have H3 : Hd (CellAt w e1 m1 d1 b1) := ⟨h3⟩
  have H4 : Hd (CellAt w e2 m2 d2 b2) := ⟨h4⟩
  clear h1 h2 h3 h4
  have f1 : (k.toList == k.toList) = true := by simp
  have f2 : (has == has) = true := by simp
  have f3 : (asd == asd) = true := by simp
  go_enter Tryz.func9, Tryz.ntmps9
  go_wp2_with fail
  generalize hA : Obj.cells #[Value.string k, .int .i64 t1, .slice a1 n1 c1, .int .i64 t2, .slice a2 n2 c2, .int .i64 has, .bool asd] 29 = A
  generalize hB : Obj.cells #[Value.string k, .int .i64 t1, .slice e1 m1 d1, .int .i64 t2, .slice e2 m2 d2, .int .i64 has, .bool asd] 29 = B
  have h0 : Below w.heap.size w ((w.alloc A).alloc B) := below_lit2 w A B
  refine (sameCell_true t1 a1 n1 c1 e1 m1 d1 b1 _ (H1.out.below h0) (H3.out.below h0)).mono ?_
  rintro e v1 ⟨rfl, hb⟩
  obtain ⟨l1, l2⟩ := laid2 w A B
  subst hA hB
  have K1 : Hd (v1.heap[w.heap.size]? = some (.cells #[.string k, .int .i64 t1, .slice a1 n1 c1, .int .i64 t2, .slice a2 n2 c2, .int .i64 has, .bool asd] 29 (0, 0))) := ⟨(hb.block _ (by simp; omega)).trans l1⟩
  have K2 : Hd (v1.heap[w.heap.size + 1]? = some (.cells #[.string k, .int .i64 t1, .slice e1 m1 d1, .int .i64 t2, .slice e2 m2 d2, .int .i64 has, .bool asd] 29 (0, 0))) := ⟨(hb.block _ (by simp)).trans l2⟩
  have B1 : Hd (Below w.heap.size w v1) := ⟨Below.next h0 hb⟩
  obtain ⟨_, _, _, x3, x4, _, _⟩ := cells7 v1 w.heap.size _ _ _ _ _ _ _ _ K1.out
  obtain ⟨_, _, _, y3, y4, _, _⟩ := cells7 v1 (w.heap.size + 1) _ _ _ _ _ _ _ _ K2.out
  clear hb h0 l1 l2
  go_wp2_with fail
  refine (sameCell_true t2 a2 n2 c2 e2 m2 d2 b2 _ (H2.out.below B1.out) (H4.out.below B1.out)).mono ?_
  rintro e v2 ⟨rfl, hb⟩
  obtain ⟨_, _, _, _, _, x5, x6⟩ := cells7 v2 w.heap.size _ _ _ _ _ _ _ _ ((hb.block _ (lt_of_block K1.out)).trans K1.out)
  obtain ⟨_, _, _, _, _, y5, y6⟩ := cells7 v2 (w.heap.size + 1) _ _ _ _ _ _ _ _ ((hb.block _ (lt_of_block K2.out)).trans K2.out)
  have B2 : Hd (Below w.heap.size w v2) := ⟨Below.next B1.out hb⟩
  clear hb x3 x4 y3 y4 K1 K2 B1
  go_wp2_with fail
  go_ret
  exact ⟨rfl, B2.out⟩

end Go.Proofs.YtpafjehphajbhaaGreatDoor
