/- Contract: SameTab of the program. -/
import Derived.Test.YtfgicjglinmclabSameEF
import Derived.Test.YtfgicjglinmclabSameEM
import Derived.Test.YtfgicjglinmclabDpTab
namespace Go.Proofs.Ytfgicjglinmclab
set_option maxRecDepth 4000
open Go.RowKit

set_option maxHeartbeats 8000000 in
theorem implSameTab_rd (cs1 cs2 : List Value) (a b : TabD) (w : World) (h1 : RcTab w cs1 a) (h2 : RcTab w cs2 b) (_hw1 : wtTab a ≤ 1073741824) (_hw2 : wtTab b ≤ 1073741824) :
    Calls Try.prog 15 #[.agg cs1.toArray, .agg cs2.toArray] w fun e w' => e = .returned (.bool (sameTab a b)) ∧ Below w.heap.size w w' := by
  obtain ⟨l0, l1, l2⟩ := a
  obtain ⟨p0, p1, p2⟩ := b
  simp only [RcTab] at h1 h2
  obtain ⟨x0, m0, d0, x2, m2, d2, rfl, r1, r2⟩ := h1
  obtain ⟨y0, n0, e0, y2, n2, e2, rfl, s1, s2⟩ := h2
  have HL : Hd ((RcRowS w [.slice x0 m0 d0] l0 ∧ RcMarkS w [.slice x2 m2 d2] l2) ∧ RcRowS w [.slice y0 n0 e0] p0 ∧ RcMarkS w [.slice y2 n2 e2] p2) := ⟨⟨r1, r2⟩, s1, s2⟩
  clear r1 r2 s1 s2
  obtain ⟨r, hr⟩ : ∃ r, sameTab ⟨l0, l1, l2⟩ ⟨p0, p1, p2⟩ = r := ⟨_, rfl⟩
  obtain ⟨k1, hk1⟩ : ∃ k, ((l0.length == p0.length) && allB sRow l0 p0) = k := ⟨_, rfl⟩
  obtain ⟨k2, hk2⟩ : ∃ k, ((l2.length == p2.length) && allB sMark l2 p2) = k := ⟨_, rfl⟩
  have HR : Hd (r = (k1 && (l1 == p1) && k2)) := ⟨by rw [← hr, ← hk1, ← hk2]; rfl⟩
  have HK : Hd ((((l0.length == p0.length) && allB sRow l0 p0) = k1) ∧ ((l2.length == p2.length) && allB sMark l2 p2) = k2) := ⟨hk1, hk2⟩
  rw [hr]
  clear hr hk1 hk2
  go_enter Try.func15, Try.ntmps15
  go_wp2_with fail
  obtain ⟨q1, q2⟩ := laid2 w (.cells #[Value.slice x0 m0 d0, Value.int IntKind.i64 l1, Value.slice x2 m2 d2] 32) (.cells #[Value.slice y0 n0 e0, Value.int IntKind.i64 p1, Value.slice y2 n2 e2] 32)
  refine (equalFunc_any x0 m0 d0 y0 n0 e0 l0 p0 _ (rcRowS_ok.below HL.out.1.1 (below_lit2 w _ _)) (rcRowS_ok.below HL.out.2.1 (below_lit2 w _ _))).mono ?_
  rintro e w1 ⟨rfl, hb⟩
  have KA : Hd (w1.heap[w.heap.size]? = some (.cells #[Value.slice x0 m0 d0, Value.int IntKind.i64 l1, Value.slice x2 m2 d2] 32 (0, 0))) := ⟨(hb.block _ (by simp; omega)).trans q1⟩
  have KB : Hd (w1.heap[w.heap.size + 1]? = some (.cells #[Value.slice y0 n0 e0, Value.int IntKind.i64 p1, Value.slice y2 n2 e2] 32 (0, 0))) := ⟨(hb.block _ (by simp)).trans q2⟩
  have B1 : Hd (Below w.heap.size w w1) := ⟨Below.next (below_lit2 w _ _) hb⟩
  clear hb q1 q2
  rewrite [HK.out.1]
  have u1 := cellsA KA.out 1 rfl
  have u2 := cellsA KA.out 2 rfl
  have v1 := cellsA KB.out 1 rfl
  have v2 := cellsA KB.out 2 rfl
  cases k1
  · go_wp2_with fail
    go_ret
    exact ⟨by rw [HR.out]; rfl, B1.out⟩
  cases hp : (l1 == p1)
  · go_wp2_with fail
    go_ret
    exact ⟨by rw [HR.out, hp]; rfl, B1.out⟩
  go_wp2_with fail
  clear u1 u2 v1 v2
  refine (equalMarks_any x2 m2 d2 y2 n2 e2 l2 p2 _ (rcMarkS_ok.below HL.out.1.2 B1.out) (rcMarkS_ok.below HL.out.2.2 B1.out)).mono ?_
  rintro e w2 ⟨rfl, hb⟩
  rewrite [HK.out.2]
  have B2 : Hd (Below w.heap.size w w2) := ⟨Below.next B1.out hb⟩
  clear hb
  go_wp2_with fail
  go_ret
  exact ⟨by rw [HR.out, hp]; cases k2 <;> rfl, B2.out⟩

end Go.Proofs.Ytfgicjglinmclab
