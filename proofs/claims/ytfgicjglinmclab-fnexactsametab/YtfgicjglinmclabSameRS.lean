/- Contract: two rows that are alike, in the specification. -/
import Derived.Test.YtfgicjglinmclabSameC
import Derived.Deep.RegionHeld3
import Derived.WalkSmall
namespace Go.Proofs.Ytfgicjglinmclab
set_option maxRecDepth 4000
open Go.RowKit

set_option maxHeartbeats 4000000 in
theorem specSameRow_rd (cs1 cs2 : List Value) (a b : RowD) (w : World) (h1 : RcRow w cs1 a) (h2 : RcRow w cs2 b) :
    Calls Try.prog 31 #[.agg cs1.toArray, .agg cs2.toArray] w fun e w' => e = .returned (.bool (sRow a b)) ∧ Below w.heap.size w w' := by
  obtain ⟨l0, l1, l2, l3, l4, l5, l6⟩ := a
  obtain ⟨p0, p1, p2, p3, p4, p5, p6⟩ := b
  obtain ⟨x2, m2, d2, x4, m4, d4, rfl, k1, k2⟩ := rcRow_cells h1
  obtain ⟨y2, n2, e2, y4, n4, e4, rfl, k3, k4⟩ := rcRow_cells h2
  clear h1 h2
  unfold sRow
  dsimp only
  have HC : Hd ((CellAt w x2 m2 d2 l2 ∧ CellAt w x4 m4 d4 l4) ∧ (CellAt w y2 n2 e2 p2 ∧ CellAt w y4 n4 e4 p4)) := ⟨⟨k1, k2⟩, k3, k4⟩
  clear k1 k2 k3 k4
  obtain ⟨s1, hs1⟩ : ∃ s, sCell l1 l2 p1 p2 = s := ⟨_, rfl⟩
  obtain ⟨s2, hs2⟩ : ∃ s, sCell l3 l4 p3 p4 = s := ⟨_, rfl⟩
  rw [hs1, hs2]
  have HS1 : Hd (sCell l1 l2 p1 p2 = s1) := ⟨hs1⟩
  have HS2 : Hd (sCell l3 l4 p3 p4 = s2) := ⟨hs2⟩
  clear hs1 hs2
  cases hk : (l0.toList == p0.toList)
  · go_enter Try.func31, Try.ntmps31
    go_wp2
    go_ret
    exact ⟨rfl, below_lit2 w _ _⟩
  go_enter Try.func31, Try.ntmps31
  go_wp2_with fail
  obtain ⟨k1, k2⟩ := laid2 w (.cells #[Value.string l0, .int .i64 l1, .slice x2 m2 d2, .int .i64 l3, .slice x4 m4 d4, .int .i64 l5, .bool l6] 46) (.cells #[Value.string p0, .int .i64 p1, .slice y2 n2 e2, .int .i64 p3, .slice y4 n4 e4, .int .i64 p5, .bool p6] 46)
  have KA : Hd (((w.alloc (.cells #[Value.string l0, .int .i64 l1, .slice x2 m2 d2, .int .i64 l3, .slice x4 m4 d4, .int .i64 l5, .bool l6] 46)).alloc (.cells #[Value.string p0, .int .i64 p1, .slice y2 n2 e2, .int .i64 p3, .slice y4 n4 e4, .int .i64 p5, .bool p6] 46)).heap[w.heap.size]? = some (.cells #[Value.string l0, .int .i64 l1, .slice x2 m2 d2, .int .i64 l3, .slice x4 m4 d4, .int .i64 l5, .bool l6] 46 (0, 0))) := ⟨k1⟩
  have KB : Hd (((w.alloc (.cells #[Value.string l0, .int .i64 l1, .slice x2 m2 d2, .int .i64 l3, .slice x4 m4 d4, .int .i64 l5, .bool l6] 46)).alloc (.cells #[Value.string p0, .int .i64 p1, .slice y2 n2 e2, .int .i64 p3, .slice y4 n4 e4, .int .i64 p5, .bool p6] 46)).heap[w.heap.size + 1]? = some (.cells #[Value.string p0, .int .i64 p1, .slice y2 n2 e2, .int .i64 p3, .slice y4 n4 e4, .int .i64 p5, .bool p6] 46 (0, 0))) := ⟨k2⟩
  have B0 : Hd (Below w.heap.size w ((w.alloc (.cells #[Value.string l0, .int .i64 l1, .slice x2 m2 d2, .int .i64 l3, .slice x4 m4 d4, .int .i64 l5, .bool l6] 46)).alloc (.cells #[Value.string p0, .int .i64 p1, .slice y2 n2 e2, .int .i64 p3, .slice y4 n4 e4, .int .i64 p5, .bool p6] 46))) := ⟨below_lit2 w _ _⟩
  obtain ⟨W, hW⟩ : ∃ W, (w.alloc (.cells #[Value.string l0, .int .i64 l1, .slice x2 m2 d2, .int .i64 l3, .slice x4 m4 d4, .int .i64 l5, .bool l6] 46)).alloc (.cells #[Value.string p0, .int .i64 p1, .slice y2 n2 e2, .int .i64 p3, .slice y4 n4 e4, .int .i64 p5, .bool p6] 46) = W := ⟨_, rfl⟩
  rw [hW] at KA KB B0
  rewrite [hW]
  clear k1 k2 hW hk
  refine (specSameCell_any l1 x2 m2 d2 l2 p1 y2 n2 e2 p2 _ (HC.out.1.1.below B0.out) (HC.out.2.1.below B0.out)).mono ?_
  rintro e w1 ⟨rfl, hb⟩
  have KA1 : Hd (w1.heap[w.heap.size]? = some (.cells #[Value.string l0, .int .i64 l1, .slice x2 m2 d2, .int .i64 l3, .slice x4 m4 d4, .int .i64 l5, .bool l6] 46 (0, 0))) := ⟨(hb.block _ (block_lt KA.out)).trans KA.out⟩
  have KB1 : Hd (w1.heap[w.heap.size + 1]? = some (.cells #[Value.string p0, .int .i64 p1, .slice y2 n2 e2, .int .i64 p3, .slice y4 n4 e4, .int .i64 p5, .bool p6] 46 (0, 0))) := ⟨(hb.block _ (block_lt KB.out)).trans KB.out⟩
  have B1 : Hd (Below w.heap.size w w1) := ⟨Below.next B0.out hb⟩
  clear hb KA KB B0
  rewrite [HS1.out]
  have u3 := cellsA KA1.out 3 rfl
  have v3 := cellsA KB1.out 3 rfl
  have u4 := cellsA KA1.out 4 rfl
  have v4 := cellsA KB1.out 4 rfl
  have u5 := cellsA KA1.out 5 rfl
  have v5 := cellsA KB1.out 5 rfl
  have u6 := cellsA KA1.out 6 rfl
  have v6 := cellsA KB1.out 6 rfl
  clear HS1
  cases s1
  · go_wp2
    go_ret
    exact ⟨rfl, B1.out⟩
  go_wp2_with fail
  clear u3 v3 u4 v4 u5 v5 u6 v6
  refine (specSameCell_any l3 x4 m4 d4 l4 p3 y4 n4 e4 p4 _ (HC.out.1.2.below B1.out) (HC.out.2.2.below B1.out)).mono ?_
  rintro e w2 ⟨rfl, hb⟩
  have KA2 : Hd (w2.heap[w.heap.size]? = some (.cells #[Value.string l0, .int .i64 l1, .slice x2 m2 d2, .int .i64 l3, .slice x4 m4 d4, .int .i64 l5, .bool l6] 46 (0, 0))) := ⟨(hb.block _ (block_lt KA1.out)).trans KA1.out⟩
  have KB2 : Hd (w2.heap[w.heap.size + 1]? = some (.cells #[Value.string p0, .int .i64 p1, .slice y2 n2 e2, .int .i64 p3, .slice y4 n4 e4, .int .i64 p5, .bool p6] 46 (0, 0))) := ⟨(hb.block _ (block_lt KB1.out)).trans KB1.out⟩
  have B2 : Hd (Below w.heap.size w w2) := ⟨Below.next B1.out hb⟩
  clear hb KA1 KB1 B1 HC
  rewrite [HS2.out]
  have u3 := cellsA KA2.out 3 rfl
  have v3 := cellsA KB2.out 3 rfl
  have u4 := cellsA KA2.out 4 rfl
  have v4 := cellsA KB2.out 4 rfl
  have u5 := cellsA KA2.out 5 rfl
  have v5 := cellsA KB2.out 5 rfl
  have u6 := cellsA KA2.out 6 rfl
  have v6 := cellsA KB2.out 6 rfl
  clear HS2
  cases s2
  · go_wp2
    go_ret
    exact ⟨rfl, B2.out⟩
  cases hh : (l5 == p5)
  · go_wp2
    go_ret
    exact ⟨by first | rfl | simp [hh], B2.out⟩
  · go_wp2
    go_ret
    exact ⟨by first | rfl | simp [hh], B2.out⟩

end Go.Proofs.Ytfgicjglinmclab
