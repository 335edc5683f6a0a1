/- What the laws do with a Mark. -/
import Derived.Test.YtlididoalekeoaaGreatDoorDeepA
import Derived.Test.YtlididoalekeoaaGreatDoorTabDat
namespace Go.Proofs.YtlididoalekeoaaGreatDoor
set_option maxRecDepth 4000
open Go.RowKit

def RdMark : Rd MarkD := fun _ cs a => cs = [.int .i64 a.who, .int .i64 a.seq, .int .i64 a.code]
def RcMark : Rd MarkD := fun _ cs a => cs = [.int .i64 a.who, .int .i64 a.seq, .int .i64 a.code]
def OwMark : Ow MarkD := fun _ cs F a => cs = [.int .i64 a.who, .int .i64 a.seq, .int .i64 a.code] ∧ (∀ x, ¬ F x)
theorem rdMark_ok : RdOk 3 RdMark := ⟨fun e => by rw [e]; rfl, fun e _ => e⟩
theorem rcMark_ok : RdOk 3 RcMark := ⟨fun e => by rw [e]; rfl, fun e _ => e⟩
theorem rcMark_w {w : World} {cs : List Value} {a : MarkD} (h : RcMark w cs a) : RdMark w cs a := h
theorem owMark_ok : OwOk 3 OwMark RcMark where
  len := fun h => by rw [h.1]; rfl
  lt := fun h x hx => (h.2 x hx).elim
  keep := fun h _ => h
  rd := fun h => h.1
theorem infoMark : (Tryz.prog.info? 70).map (·.size) = some 3 := by kernel_rfl
def wtMark (_a : MarkD) : Nat := 0
def ctMark (_a : MarkD) : Nat := 1 + 1 + 1
def mkMark (m : Nat) (_a : MarkD) : MarkD := (⟨((m : Nat) : Int), ((m + 1 : Nat) : Int), ((m + 1 + 1 : Nat) : Int)⟩ : MarkD)
def cuMark (_a : MarkD) : Nat := 0
def mtMark (_m : Nat) (a : MarkD) : MarkD := (⟨a.who, a.seq, a.code⟩ : MarkD)

set_option maxHeartbeats 4000000 in
theorem eqMark_rd (c1 c2 : List Value) (a : MarkD) (w : World) (h1 : RdMark w c1 a) (h2 : RdMark w c2 a) (hw : wtMark a ≤ 1073741824) :
    Calls Tryz.prog 69 #[.agg c1.toArray, .agg c2.toArray] w fun e w' => e = .returned (.bool true) ∧ Below w.heap.size w w' := by
  obtain ⟨l0, l1, l2⟩ := a
  simp only [RdMark] at h1 h2
  subst h1 h2
  have f0 : (l0 != l0) = false := by simp
  have f1 : (l1 != l1) = false := by simp
  have f2 : (l2 != l2) = false := by simp
  clear hw
  go_enter Tryz.func69, Tryz.ntmps69
  go_wp2
  go_ret
  exact ⟨rfl, below_lit2 w _ _⟩

set_option maxHeartbeats 4000000 in
theorem toMark_rd (cs : List Value) (a : MarkD) (w : World) (h : RdMark w cs a) (hw : wtMark a ≤ 1073741824) :
    Calls Tryz.prog 59 #[.agg cs.toArray] w (AnsAgg OwMark a w) := by
  obtain ⟨l0, l1, l2⟩ := a
  simp only [RdMark] at h
  subst h
  clear hw
  go_enter Tryz.func59, Tryz.ntmps59
  go_wp2
  obtain ⟨_, k1, _⟩ := laid3 w (Obj.cells #[Value.int .i64 l0, .int .i64 l1, .int .i64 l2] 106) (Obj.cells #[Value.int .i64 l0, .int .i64 l1, .int .i64 l2] 70) (Obj.cells #[Value.int .i64 l0, .int .i64 l1, .int .i64 l2] 70)
  refine bodyPost_ret (results_cell_row rfl _ _ (w.heap.size + 1) _ _ (0, 0) _ rfl k1 Tryz.underlying70 rfl (by kernel_rfl)) rfl ?_
  exact ⟨⟨[.int .i64 l0, .int .i64 l1, .int .i64 l2], rfl, fun _ => False, ⟨rfl, fun _ h => h⟩, fun _ h => h.elim⟩, below_lit3 w _ _ _⟩

end Go.Proofs.YtlididoalekeoaaGreatDoor
