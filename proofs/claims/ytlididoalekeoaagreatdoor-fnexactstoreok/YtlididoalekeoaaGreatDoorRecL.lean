/- Contracts: whether one of a list's records is not right, in the program. -/
import Derived.Test.YtlididoalekeoaaGreatDoorPartI
import Derived.Test.YtlididoalekeoaaGreatDoorAscP
import Derived.Test.YtlididoalekeoaaGreatDoorRecI
namespace Go.Proofs.YtlididoalekeoaaGreatDoor
set_option maxRecDepth 4000
open Go.RowKit

set_option maxHeartbeats 4000000 in
theorem implTabOk1_rd (cs : List Value) (a : RecD) (w : World) (h : RcRec w cs a) (hw : wtRec a ≤ 1048576) (T : Hd (AllAt w)) :
    Calls Tryz.prog 39 #[.agg cs.toArray] w fun e w' => e = .returned (.bool (!recOk a)) ∧ Below w.heap.size w w' := by
  obtain ⟨r, hr⟩ : ∃ r, recOk a = r := ⟨_, rfl⟩
  have HR : Hd (recOk a = r) := ⟨hr⟩
  have HQ : Hd (RcRec w cs a ∧ wtRec a ≤ 1048576) := ⟨h, hw⟩
  rw [hr]
  clear hr hw
  obtain ⟨x3, m3, d3, x5, m5, d5, rfl, _⟩ := h
  obtain ⟨y0, h0⟩ : ∃ y, a.kind = y := ⟨_, rfl⟩
  have CF := heap_alloc_new w (.cells (List.toArray [.int .i64 a.kind, .string a.r.key, .int .i64 a.r.t1, .slice x3 m3 d3, .int .i64 a.r.t2, .slice x5 m5 d5, .int .i64 a.r.has, .bool a.r.aside, .string a.key, .int .i64 a.n, .int .i64 a.who, .int .i64 a.seq, .int .i64 a.code]) 83)
  have hrg := rangeA CF
  clear CF h0 y0
  go_enter Tryz.func39, Tryz.ntmps39
  go_wp2_with (show wpList _ _ _ (Oper.mk _ (Op.load 83 _) _ _ _ _ :: _) _ _; refine wpList_load_to 83 _ rfl rfl w.heap.size 0 rfl [.int .i64 a.kind, .string a.r.key, .int .i64 a.r.t1, .slice x3 m3 d3, .int .i64 a.r.t2, .slice x5 m5 d5, .int .i64 a.r.has, .bool a.r.aside, .string a.key, .int .i64 a.n, .int .i64 a.who, .int .i64 a.seq, .int .i64 a.code] hrg Tryz.underlying83 rfl infoRec ?_)
  refine (implRecOk_rd _ a _ (rcRec_ok.below HQ.out.1 (below_lit w _)) HQ.out.2 ⟨T.out.below (below_lit w _)⟩).mono ?_
  rintro e w1 ⟨rfl, hb⟩
  rewrite [HR.out]
  have B1 : Hd (Below w.heap.size w w1) := ⟨Below.next (below_lit w _) hb⟩
  clear hb hrg
  go_wp2_with fail
  go_ret
  exact ⟨rfl, B1.out⟩

end Go.Proofs.YtlididoalekeoaaGreatDoor
