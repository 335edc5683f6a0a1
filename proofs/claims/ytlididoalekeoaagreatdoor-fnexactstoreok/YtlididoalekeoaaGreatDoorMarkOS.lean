/- Contract: a right mark, in the specification. -/
import Derived.Test.YtlididoalekeoaaGreatDoorChkP
import Derived.Test.YtlididoalekeoaaGreatDoorRecS
import Derived.Test.YtlididoalekeoaaGreatDoorDpMark
namespace Go.Proofs.YtlididoalekeoaaGreatDoor
set_option maxRecDepth 4000
open Go.RowKit

set_option maxHeartbeats 2000000 in
theorem specMark_rd (cs : List Value) (a : MarkD) (w : World) (h : RdMark w cs a) :
    Calls Tryz.prog 27 #[.agg cs.toArray] w fun e w' => e = .returned (.bool (markOk a)) ∧ Below w.heap.size w w' := by
  obtain ⟨l0, l1, l2⟩ := a
  simp only [RdMark] at h
  subst h
  obtain ⟨r, hr⟩ : ∃ r, markOk ⟨l0, l1, l2⟩ = r := ⟨_, rfl⟩
  rw [hr]
  obtain ⟨b1, h1⟩ : ∃ b, inB l0 1 9 = b := ⟨_, rfl⟩
  obtain ⟨b2, h2⟩ : ∃ b, inB l1 0 65535 = b := ⟨_, rfl⟩
  obtain ⟨b3, h3⟩ : ∃ b, inB l2 0 6 = b := ⟨_, rfl⟩
  have HB : Hd (inB l0 1 9 = b1 ∧ inB l1 0 65535 = b2 ∧ inB l2 0 6 = b3) := ⟨h1, h2, h3⟩
  have HR : Hd (r = (b1 && b2 && b3)) := ⟨by rw [← hr, ← h1, ← h2, ← h3]; rfl⟩
  clear hr h1 h2 h3
  obtain ⟨W, hW⟩ : ∃ W, w.alloc (.cells #[.int .i64 l0, .int .i64 l1, .int .i64 l2] 70) = W := ⟨_, rfl⟩
  have B1 : Hd (Below w.heap.size w W) := ⟨by rw [← hW]; exact below_lit w _⟩
  have KA : W.heap[w.heap.size]? = some (.cells #[.int .i64 l0, .int .i64 l1, .int .i64 l2] 70 (0, 0)) := by rw [← hW]; exact heap_alloc_new w _
  have c0 := cellsA KA 0 rfl
  have c1 := cellsA KA 1 rfl
  have c2 := cellsA KA 2 rfl
  go_enter Tryz.func27, Tryz.ntmps27
  go_wp2_with fail
  refine (l1In_any l0 1 9 _).mono ?_
  rintro e w1 ⟨rfl, rfl⟩
  rewrite [HB.out.1]
  cases b1
  · go_wp2_with fail
    go_ret
    exact ⟨by rw [HR.out]; rfl, B1.out⟩
  go_wp2_with fail
  refine (l1Word_any l1 _).mono ?_
  rintro e w1 ⟨rfl, rfl⟩
  rewrite [HB.out.2.1]
  cases b2
  · go_wp2_with fail
    go_ret
    exact ⟨by rw [HR.out]; rfl, B1.out⟩
  go_wp2_with fail
  refine (l1In_any l2 0 6 _).mono ?_
  rintro e w1 ⟨rfl, rfl⟩
  rewrite [HB.out.2.2]
  go_wp2_with fail
  go_ret
  exact ⟨by rw [HR.out]; cases b3 <;> rfl, B1.out⟩

end Go.Proofs.YtlididoalekeoaaGreatDoor
