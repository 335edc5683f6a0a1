/- Contracts of Turn and SameText, in the specification. -/
import Derived.Test.YtgefabagpcjegabDoorCellT
import Derived.Deep.RegionHeldLaw
namespace Go.Proofs.YtgefabagpcjegabDoor
set_option maxRecDepth 4000
open Go.RowKit

theorem two_at {w w1 : World} {v : Value} {tag : Int} {B : Obj} (hb : Below ((w.alloc (.cells #[.int .i64 tag, v] 27)).alloc B).heap.size ((w.alloc (.cells #[.int .i64 tag, v] 27)).alloc B) w1) :
    w1.heap[w.heap.size]? = some (.cells #[.int .i64 tag, v] 27 (0, 0)) ∧ w1.heap[w.heap.size + 1]? = some B := by
  obtain ⟨h1, h2⟩ := laid2 w (.cells #[.int .i64 tag, v] 27) B
  exact ⟨(hb.block _ (by simp; omega)).trans h1, (hb.block _ (by simp)).trans h2⟩
theorem OwnO.of_set {w : World} {B q j c : Nat} {v : Value} {ao : Option Addr} {bs : List UInt8} (h : OwnO w B ao c bs) (hq : q < B) : OwnO (w.setCell ⟨q, j, none⟩ v) B ao c bs := by
  rcases h with h | ⟨g, rfl, h1, hO⟩
  · exact .inl h
  · exact .inr ⟨g, rfl, h1, hO.of_block (block_set rfl (by omega))⟩

set_option maxHeartbeats 400000 in
theorem specSameText_any (t1 : Int) (o1 : Option Addr) (n1 c1 : Nat) (b1 : List UInt8) (t2 : Int) (o2 : Option Addr) (n2 c2 : Nat) (b2 : List UInt8) (w : World) (h1 : CellAt w o1 n1 c1 b1) (hl1 : n1 ≤ 1048576) (h2 : CellAt w o2 n2 c2 b2) (hl2 : n2 ≤ 1048576) :
    Calls Tryd.prog 5 #[.agg #[.int .i64 t1, .slice o1 n1 c1], .agg #[.int .i64 t2, .slice o2 n2 c2]] w fun e w' => e = .returned (.bool (mOk t1 b1 t2 b2)) ∧ Below w.heap.size w w' := by
  have H1 : Hd (CellAt w o1 n1 c1 b1) := ⟨h1⟩
  have H2 : Hd (CellAt w o2 n2 c2 b2) := ⟨h2⟩
  obtain ⟨x, hx⟩ : ∃ x, (tS t1 b1).toArray = x := ⟨_, rfl⟩
  have HX : Hd ((tS t1 b1).toArray = x) := ⟨hx⟩
  obtain ⟨y, hy⟩ : ∃ y, (tS t2 b2).toArray = y := ⟨_, rfl⟩
  have HY : Hd ((tS t2 b2).toArray = y) := ⟨hy⟩
  obtain ⟨k1, hk1⟩ : ∃ k, tOk t1 b1 = k := ⟨_, rfl⟩
  have HK1 : Hd (tOk t1 b1 = k1) := ⟨hk1⟩
  obtain ⟨k2, hk2⟩ : ∃ k, tOk t2 b2 = k := ⟨_, rfl⟩
  have HK2 : Hd (tOk t2 b2 = k2) := ⟨hk2⟩
  have E : Hd (mOk t1 b1 t2 b2 = (k1 && k2 && ((⟨x⟩ : ByteArray).toList == (⟨y⟩ : ByteArray).toList))) := ⟨by
    rw [ByteArray.toList_eq, ByteArray.toList_eq, ← hx, ← hy, ← hk1, ← hk2]
    rfl⟩
  rw [E.out]
  clear h1 h2 hx hy hk1 hk2 E
  go_enter Tryd.func5, Tryd.ntmps5
  go_wp2_with fail
  refine (specCellText_any t1 o1 n1 c1 b1 _ (H1.out.below (below_lit2 w _ _)) hl1).mono ?_
  rintro e w1 ⟨rfl, hB1⟩
  rewrite [HX.out, HK1.out]
  have B1 : Hd (Below w.heap.size w w1) := ⟨Below.next (below_lit2 w _ _) hB1⟩
  obtain ⟨_, l2⟩ := two_at hB1
  obtain ⟨r0, r1, _, _⟩ := cells2 _ (w.heap.size + 1) _ _ _ l2
  clear hB1 l2
  go_wp2_with fail
  refine (specCellText_any t2 o2 n2 c2 b2 _ (H2.out.below B1.out) hl2).mono ?_
  rintro e w2 ⟨rfl, hB2⟩
  rewrite [HY.out, HK2.out]
  have B2 : Hd (Below w.heap.size w w2) := ⟨Below.next B1.out hB2⟩
  clear hB2 B1 r0 r1
  cases k1 with
  | false =>
    go_wp2_with fail
    go_ret
    exact ⟨rfl, B2.out⟩
  | true =>
    cases k2 with
    | false =>
      go_wp2_with fail
      go_ret
      exact ⟨rfl, B2.out⟩
    | true =>
      go_wp2_with fail
      go_ret
      exact ⟨rfl, B2.out⟩

end Go.Proofs.YtgefabagpcjegabDoor
