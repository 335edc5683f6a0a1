/- Contract of what bends bytes that were drawn. -/
import Derived.Test.YtlididoalekeoaaDrawn
import Derived.Deep.RegionWith
namespace Go.Proofs.Ytlididoalekeoaa
set_option maxRecDepth 4000
open Go.RowKit

/-- The bytes, the cursor and all else, while they are bent. -/
structure BendAt (w : World) (g : Nat) (ao : Option Addr) (len cap : Nat) (bs : List UInt8) (q c L : Nat) (xs : List UInt8) (w' : World) : Prop where
  own : Own w' q c xs
  size : xs.length = L
  cur : Cursor w' g ao len cap bs
  gr : w.grownBy w' (some g)
theorem bendS {w : World} {g : Nat} {ao : Option Addr} {len cap : Nat} {bs : List UInt8} {q c L : Nat} {xs : List UInt8} {w' : World} (h : Hd (BendAt w g ao len cap bs q c L xs w')) :
    Hd (BendAt w g ao len cap bs q c L xs w') ∧ (∀ i : Nat, i < L → w'.cell? ⟨q, i, none⟩ = some (.int .u8 ((xs.getD i 0).toNat : Int))) ∧ (∀ i : Nat, w'.frozen? ⟨q, i, none⟩ = false) :=
  ⟨h, fun i hi => h.out.own.row.cell i (by rw [h.out.size]; exact hi), fun i => h.out.own.row.free i⟩
theorem Own.store {w : World} {g c : Nat} {bs : List UInt8} (h : Own w g c bs) (j : Nat) (x : UInt8) : Own (w.setCell ⟨g, j, none⟩ (.int .u8 (x.toNat : Int))) g c (bs.set j x) := by
  obtain ⟨cur, hg, h1, h2, h3, h4⟩ := h
  refine ⟨cur.setIfInBounds j (cb x), heap_setCell_same w g j cur _ (cb x) hg, by simpa using h1, h2, by simpa using h3, ?_⟩
  rw [Array.toList_setIfInBounds, List.length_set, List.take_set, h4, List.map_set]
theorem BendAt.store {w : World} {g : Nat} {ao : Option Addr} {len cap : Nat} {bs : List UInt8} {q c L : Nat} {xs : List UInt8} {w' : World} (h : BendAt w g ao len cap bs q c L xs w') (hq : w.heap.size ≤ q) (hg : g < w.heap.size) (y : Nat) (v : UInt8) :
    BendAt w g ao len cap bs q c L (xs.set y v) (w'.setCell ⟨q, y, none⟩ (.int .u8 (v.toNat : Int))) :=
  ⟨h.own.store y v, by rw [List.length_set]; exact h.size, h.cur.kept (fun k hk => heap_setCell_other w' ⟨q, y, none⟩ k _ (by show k ≠ q; omega)),
   ⟨h.gr.os, h.gr.tape, h.gr.output, by have := h.gr.size; simp; omega, fun k hk hne => (heap_setCell_other w' ⟨q, y, none⟩ k _ (by show k ≠ q; omega)).trans (h.gr.block k hk hne)⟩⟩
theorem xor_byte (a b : Int) : ∃ v : UInt8, bits .xor .u8 a b = (v.toNat : Int) := by
  refine ⟨UInt8.ofNat (BitVec.ofInt 8 a ^^^ BitVec.ofInt 8 b).toNat, ?_⟩
  show IntKind.u8.wrap ((BitVec.ofInt 8 a ^^^ BitVec.ofInt 8 b).toNat : Int) = _
  rw [IntKind.wrap_u8, UInt8.toNat_ofNat']; omega
structure BelowBend (w : World) (g : Nat) (ao : Option Addr) (len cap : Nat) (bs : List UInt8) (q c L : Nat) (xs : List UInt8) (n : Nat) (e : Ending) (w' : World) : Prop where
  out : ∃ x : Nat, e = .returned (.int .i64 (x : Int)) ∧ x < n ∧ (x : Int) < (n : Int) ∧ Hd (BendAt w g ao len cap bs q c L xs w')
theorem l1Below_bend (w : World) (g : Nat) (ao : Option Addr) (len cap : Nat) (bs : List UInt8) (q c L : Nat) (xs : List UInt8) (n : Nat) (w' : World) (hl : len ≤ 1073741824) (hn : 0 < n) (hn2 : n ≤ 256) (hqg : q ≠ g) (h : Hd (BendAt w g ao len cap bs q c L xs w')) :
    Calls Try.prog 62 #[.pointer (some ⟨g, 0, none⟩), .int .i64 (n : Int)] w' (BelowBend w g ao len cap bs q c L xs n) := by
  refine (l1Below_any g ao len cap bs n w' hl hn hn2 h.out.cur).mono ?_
  rintro e w2 ⟨x, hx, rfl, hC, hG⟩
  exact ⟨x, rfl, hx, by omega, ⟨h.out.own.grown hG hqg, h.out.size, hC, grown_next h.out.gr hG⟩⟩

set_option maxHeartbeats 4000000 in
theorem l1Bend_any (g : Nat) (ao : Option Addr) (len cap : Nat) (bs : List UInt8) (b L C : Nat) (xs : List UInt8) (w : World) (hl : len ≤ 1073741824) (hL : L ≤ 255) (hn : xs.length = L) (hc : ∀ j, j < L → w.cell? ⟨b, 0 + j, none⟩ = some (.int .u8 ((xs.getD j 0).toNat : Int))) (hb : b < w.heap.size) (h : Cursor w g ao len cap bs) :
    Calls Try.prog 61 #[.pointer (some ⟨g, 0, none⟩), .slice (some ⟨b, 0, none⟩) L C] w (BytesDrawn w g ao len cap bs L) := by
  obtain ⟨i0, hi, hz0, hz1, hz2⟩ := info_parts info8
  have H : Hd (Cursor w g ao len cap bs) := ⟨h⟩
  have hlt := h.lt
  have Hn : Hd (xs.length = L) := ⟨hn⟩
  have Hc : Hd (∀ j, j < L → w.cell? ⟨b, 0 + j, none⟩ = some (.int .u8 ((xs.getD j 0).toNat : Int))) := ⟨hc⟩
  clear h hn hc
  go_enter Try.func61, Try.ntmps61
  go_wp2_with (at_builtin; refine wpList_append_own _ rfl (.tmp 6) (.tmp 7) 22 rfl w.heap.size 5 i0 (.int .u8 0) 1 1 Try.underlying22 hi hz0 hz1 hz2 rfl (by decide) _ 0 [] rfl ?hown ⟨b, 0, none⟩ L C (xs.map cb) rfl ?hl ?hn ?h1 ?h63 ?hby ?hbase ?_)
  case hown => exact World.ownsRow_made w #[] 0 (Nat.le_refl _) (by unfold maxLen; omega) rfl
  case hl => simpa using Hn.out
  case hn => exact map_cb_cell Hn.out (fun j hj => (((Below.refl w.heap.size w).alloc (Nat.le_refl _) _).cell (p := ⟨b, 0 + j, none⟩) hb).trans (Hc.out j hj))
  case h1 => exact one_cb xs
  case h63 => unfold maxLen; omega
  case hby => omega
  case hbase => simp
  intro v1 w1 hown1 hgr1 hne1
  obtain ⟨q, c, hv1, hq, hO⟩ := own_row hown1 hne1
  have hB1 : Below w.heap.size w w1 := ((Below.refl _ w).alloc (Nat.le_refl _) _).grown hgr1 (by simp) (fun k h => by simp [Value.ownBlock] at h; omega)
  have C1 : Hd (Cursor w1 g ao len cap bs) := ⟨H.out.below hB1⟩
  have G1 : Hd (w.grownBy w1 (some g)) := ⟨grown_below hB1 _⟩
  have O1 : Hd (Own w1 q c xs) := ⟨hO⟩
  have hLc : L ≤ c := by have := hO.le; have := Hn.out; omega
  have hqg : q ≠ g := by omega
  have Hq : Hd (w.heap.size ≤ q) := ⟨hq⟩
  rw [hv1]
  clear hown1 hgr1 hne1 hv1 hO hB1 H Hc hq
  go_wp2_with fail
  refine (l1Below_any g ao len cap bs 5 _ hl (by omega) (by omega) C1.out).mono ?_
  rintro e w2 ⟨x, hx, rfl, hC2, hG2⟩
  have C2 : Hd (Cursor w2 g ao len cap bs) := ⟨hC2⟩
  have G2 : Hd (w.grownBy w2 (some g)) := ⟨grown_next G1.out hG2⟩
  have O2 : Hd (Own w2 q c xs) := ⟨O1.out.grown hG2 hqg⟩
  clear hC2 hG2 C1 G1 O1
  by_cases x0 : x = 0
  · subst x0
    go_wp2_with fail
    refine (l1Below_any g ao len cap bs (L + 1) _ hl (by omega) (by omega) C2.out).mono ?_
    rintro e w3 ⟨y, hy, rfl, hC3, hG3⟩
    have C3 : Hd (Cursor w3 g ao len cap bs) := ⟨hC3⟩
    have G3 : Hd (w.grownBy w3 (some g)) := ⟨grown_next G2.out hG3⟩
    have O3 : Hd (Own w3 q c (xs.take y)) := ⟨(O2.out.grown hG3 hqg).take y⟩
    have D3 : Hd ((xs.take y).length = y) := ⟨by have := Hn.out; simp; omega⟩
    have hyc : (y : Int) ≤ (c : Int) := by omega
    have hyL : Hd (y ≤ L) := ⟨by omega⟩
    clear hC3 hG3 C2 G2 O2
    go_wp2_with fail
    go_ret
    exact ⟨q, y, c, xs.take y, rfl, D3.out, hyL.out, Hq.out, O3.out, C3.out, G3.out⟩
  · by_cases x1 : x = 1
    · subst x1
      by_cases hL0 : 0 < L
      · have hLI : (0 : Int) < (L : Int) := by omega
        have T2 : Hd (BendAt w g ao len cap bs q c L xs w2.drew) := ⟨⟨O2.out.of_block rfl, Hn.out, C2.out.kept fun _ _ => rfl, ⟨G2.out.os, G2.out.tape, G2.out.output, G2.out.size, G2.out.block⟩⟩⟩
        clear C2 G2 O2
        go_wp2_with fail
        go_region_with (first | (go_at_call_of 62 (Value.int IntKind.i64 255); refine (l1Below_bend w g ao len cap bs q c L xs 255 _ hl (by omega) (by omega) hqg T3).mono ?_; rintro e w4 ⟨z, rfl, hz, hzI, T4⟩; have cell4 := T4.out.own.row.cell y (by rw [T4.out.size]; exact hy); have free4 := T4.out.own.row.free y) | (go_at_call_of 62 (Value.int IntKind.i64 (L : Int)); refine (l1Below_bend w g ao len cap bs q c L xs L _ hl (by omega) (by omega) hqg T2).mono ?_; rintro e w3 ⟨y, rfl, hy, hyI, T3⟩; have cell3 := T3.out.own.row.cell y (by rw [T3.out.size]; exact hy); have free3 := T3.out.own.row.free y))
        all_goals
          obtain ⟨v, hv⟩ := xor_byte (((xs[y]?.getD 0).toNat : Nat) : Int) (IntKind.u8.wrap (IntKind.i64.wrap (1 + (z : Int))))
          rewrite [hv]
          have T5 : Hd (BendAt w g ao len cap bs q c L (xs.set y v) (w4.setCell ⟨q, y, none⟩ (.int .u8 (v.toNat : Int)))) := ⟨T4.out.store Hq.out (by omega) y v⟩
          have hLr : Hd (L ≤ L) := ⟨Nat.le_refl _⟩
          generalize w4.setCell ⟨q, y, none⟩ (.int .u8 (v.toNat : Int)) = w5 at *
          clear cell4 free4 cell3 free3 T4 T3 T2 hv
          go_wp2_with fail
          go_ret
          exact ⟨q, L, c, xs.set y v, rfl, T5.out.size, hLr.out, Hq.out, T5.out.own, T5.out.cur, T5.out.gr⟩
      · have hLI : ¬ (0 : Int) < (L : Int) := by omega
        have hLr : Hd (L ≤ L) := ⟨Nat.le_refl _⟩
        go_wp2_with fail
        go_ret
        exact ⟨q, L, c, xs, rfl, Hn.out, hLr.out, Hq.out, O2.out, C2.out, G2.out⟩
    · have e0 : ((x : Int) == 0) = false := by simp; omega
      have e1 : ((x : Int) == 1) = false := by simp; omega
      have hLr : Hd (L ≤ L) := ⟨Nat.le_refl _⟩
      go_wp2_with fail
      go_ret
      exact ⟨q, L, c, xs, rfl, Hn.out, hLr.out, Hq.out, O2.out, C2.out, G2.out⟩

end Go.Proofs.Ytlididoalekeoaa
