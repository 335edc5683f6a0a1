/- What the laws do with a Cell. -/
import Derived.Test.YtlididoalekeoaaGreatDoorDeepA
namespace Go.Proofs.YtlididoalekeoaaGreatDoor
set_option maxRecDepth 4000
open Go.RowKit

structure CellD where
  tag : Int
  b : List UInt8

def RdCell : Rd CellD := fun w cs a => ∃ (x1 : Option Addr) (m1 d1 : Nat), cs = [.int .i64 a.tag, .slice x1 m1 d1] ∧ RdB w [.slice x1 m1 d1] (a.b)
def RcCell : Rd CellD := fun w cs a => ∃ (x1 : Option Addr) (m1 d1 : Nat), cs = [.int .i64 a.tag, .slice x1 m1 d1] ∧ RdC w [.slice x1 m1 d1] (a.b)
def OwCell : Ow CellD := fun w cs F a => ∃ (x1 : Option Addr) (m1 d1 : Nat) (F1 : Fp), cs = [.int .i64 a.tag, .slice x1 m1 d1] ∧ OwC w [.slice x1 m1 d1] F1 (a.b) ∧ (∀ x, F x ↔ F1 x)
theorem rdCell_ok : RdOk 2 RdCell := ⟨fun ⟨_, _, _, e, _⟩ => by rw [e]; rfl, fun ⟨x1, m1, d1, e, r1⟩ hs => ⟨x1, m1, d1, e, rdB_ok.keep r1 hs⟩⟩
theorem rcCell_ok : RdOk 2 RcCell := ⟨fun ⟨_, _, _, e, _⟩ => by rw [e]; rfl, fun ⟨x1, m1, d1, e, r1⟩ hs => ⟨x1, m1, d1, e, rdC_ok.keep r1 hs⟩⟩
theorem rcCell_w {w : World} {cs : List Value} {a : CellD} (h : RcCell w cs a) : RdCell w cs a := by
  obtain ⟨x1, m1, d1, e, r1⟩ := h
  exact ⟨x1, m1, d1, e, rdC_w r1⟩
theorem owCell_ok : OwOk 2 OwCell RcCell where
  len := fun ⟨_, _, _, _, e, _⟩ => by rw [e]; rfl
  lt := fun {w _ F _} ⟨x1, m1, d1, F1, e, r1, hF⟩ x hx => by
    exact owC_ok.lt r1 x ((hF x).1 hx)
  keep := fun ⟨x1, m1, d1, F1, e, r1, hF⟩ hs => ⟨x1, m1, d1, F1, e, owC_ok.keep r1 (fun b hb => hs b ((hF b).2 hb)), hF⟩
  rd := fun ⟨x1, m1, d1, F1, e, r1, _⟩ => ⟨x1, m1, d1, e, owC_ok.rd r1⟩
theorem infoCell : (Tryz.prog.info? 65).map (·.size) = some 2 := by kernel_rfl
def wtCell (a : CellD) : Nat := wtB (a.b)
def ctCell (a : CellD) : Nat := 1 + ctB (a.b)
def mkCell (m : Nat) (a : CellD) : CellD := (⟨((m : Nat) : Int), mkB (m + 1) (a.b)⟩ : CellD)
def cuCell (a : CellD) : Nat := ctB (a.b)
def mtCell (m : Nat) (a : CellD) : CellD := (⟨a.tag, mkB (m) (a.b)⟩ : CellD)

set_option maxHeartbeats 4000000 in
theorem szCell_rd (cs : List Value) (a : CellD) (n : Int) (w : World) (h : RdCell w cs a) (hn : 0 ≤ n ∧ n ≤ 1048576) :
    Calls Tryz.prog 70 #[.agg cs.toArray, .int .i64 n] w (SzOut n (wtCell a) w) := by
  obtain ⟨l0, l1⟩ := a
  simp only [RdCell] at h
  obtain ⟨x1, m1, d1, rfl, r1⟩ := h
  unfold wtCell
  dsimp only
  have R1 : Hd (RdB w [.slice x1 m1 d1] l1) := ⟨r1⟩
  have N0 : Hd (0 ≤ n ∧ n ≤ n ∧ n ≤ 1048576 ∧ ((0 : Nat) : Int) + n ≤ n) := ⟨by omega⟩
  clear hn r1
  go_enter Tryz.func70, Tryz.ntmps70
  go_wp2_with fail
  refine (szByteS_rd x1 m1 d1 l1 (n) _ (rdB_ok.below R1.out (below_lit w _)) ⟨by have := N0.out; omega, by have := N0.out; omega⟩).mono ?_
  rintro e w1 ⟨⟨s1, rfl, hs1, hs2, hs3⟩, hb⟩
  have K1 : Hd (w1.heap[w.heap.size]? = some (.cells #[.int .i64 l0, .slice x1 m1 d1] 94 (0, 0))) := ⟨(hb.block _ (by simp)).trans (heap_alloc_new w _)⟩
  have B1 : Hd (Below w.heap.size w w1) := ⟨Below.next (below_lit w _) hb⟩
  have M1 : Hd (s1 ≤ n ∧ n ≤ 1048576 ∧ (0 ≤ s1 → ((wtB l1 : Nat) : Int) + s1 ≤ n)) := ⟨by have := N0.out; refine ⟨by omega, by omega, fun hh => ?_⟩; have := hs3 hh; omega⟩
  clear hs1 hs2 hs3 hb
  by_cases hz1 : s1 < 0
  · go_wp2_with fail
    go_ret
    exact ⟨⟨-1, rfl, by omega, by have := N0.out; omega, fun h => by omega⟩, B1.out⟩
  have N1 : Hd (0 ≤ s1 ∧ s1 ≤ n ∧ n ≤ 1048576 ∧ ((wtB l1 : Nat) : Int) + s1 ≤ n) := ⟨by have := M1.out; omega⟩
  go_wp2_with fail
  go_ret
  exact ⟨⟨s1, rfl, by have := N1.out; omega, by have := N1.out; omega, fun _ => N1.out.2.2.2⟩, B1.out⟩

set_option maxHeartbeats 4000000 in
theorem eqCell_rd (c1 c2 : List Value) (a : CellD) (w : World) (h1 : RdCell w c1 a) (h2 : RdCell w c2 a) (hw : wtCell a ≤ 1073741824) :
    Calls Tryz.prog 80 #[.agg c1.toArray, .agg c2.toArray] w fun e w' => e = .returned (.bool true) ∧ Below w.heap.size w w' := by
  obtain ⟨l0, l1⟩ := a
  simp only [RdCell] at h1 h2
  obtain ⟨x1, m1, d1, rfl, r1⟩ := h1
  obtain ⟨y1, n1, b1, rfl, t1⟩ := h2
  unfold wtCell at hw
  dsimp only at hw
  have R1 : Hd (RdB w [.slice x1 m1 d1] l1 ∧ RdB w [.slice y1 n1 b1] l1 ∧ wtB l1 ≤ 1073741824) := ⟨r1, t1, by omega⟩
  have f0 : (l0 != l0) = false := by simp
  clear hw r1 t1
  go_enter Tryz.func80, Tryz.ntmps80
  go_wp2_with fail
  generalize hA : Obj.cells #[Value.int .i64 l0, .slice x1 m1 d1] 65 = A
  generalize hB : Obj.cells #[Value.int .i64 l0, .slice y1 n1 b1] 65 = B
  have h0 : Below w.heap.size w ((w.alloc A).alloc B) := below_lit2 w A B
  refine (eqByteS_rd x1 m1 d1 y1 n1 b1 l1 _ (rdB_ok.below R1.out.1 h0) (rdB_ok.below R1.out.2.1 h0) R1.out.2.2).mono ?_
  rintro e w1 ⟨rfl, hb⟩
  obtain ⟨k1, k2⟩ := laid2 w A B
  subst hA hB
  have K1 : Hd (w1.heap[w.heap.size]? = some (.cells #[Value.int .i64 l0, .slice x1 m1 d1] 65 (0, 0))) := ⟨(hb.block _ (by simp; omega)).trans k1⟩
  have G1 : Hd (w1.heap[w.heap.size + 1]? = some (.cells #[Value.int .i64 l0, .slice y1 n1 b1] 65 (0, 0))) := ⟨(hb.block _ (by simp)).trans k2⟩
  have B1 : Hd (Below w.heap.size w w1) := ⟨Below.next h0 hb⟩
  clear hb h0 k1 k2
  go_wp2_with fail
  go_ret
  exact ⟨rfl, B1.out⟩

set_option maxHeartbeats 4000000 in
theorem toCell_rd (cs : List Value) (a : CellD) (w : World) (h : RdCell w cs a) (hw : wtCell a ≤ 1073741824) :
    Calls Tryz.prog 73 #[.agg cs.toArray] w (AnsAgg OwCell a w) := by
  obtain ⟨l0, l1⟩ := a
  simp only [RdCell] at h
  obtain ⟨x1, m1, d1, rfl, r1⟩ := h
  unfold wtCell at hw
  dsimp only at hw
  have R1 : Hd (RdB w [.slice x1 m1 d1] l1 ∧ wtB l1 ≤ 1073741824) := ⟨r1, by omega⟩
  clear hw r1
  go_enter Tryz.func73, Tryz.ntmps73
  go_wp2_with fail
  generalize hA : Obj.cells #[Value.int .i64 l0, .slice x1 m1 d1] 94 = A
  generalize hB : Obj.cells #[Value.int .i64 0, .slice none 0 0] 65 = B
  generalize hC : Obj.cells #[Value.int .i64 l0, .slice none 0 0] 65 = C
  have h3 : Below w.heap.size w (((w.alloc A).alloc B).alloc C) := below_lit3 w A B C
  refine (toByteS_oc x1 m1 d1 l1 _ (rdB_ok.below R1.out.1 h3) R1.out.2).mono ?_
  rintro e w1 ⟨⟨y1, n1, b1, rfl, F1, hE, hF⟩, hb⟩
  obtain ⟨k0, k1, k2⟩ := laid3 w A B C
  subst hA hB hC
  have A1 : Hd (w1.heap[w.heap.size]? = some (.cells #[Value.int .i64 l0, .slice x1 m1 d1] 94 (0, 0))) := ⟨(hb.block _ (by simp; omega)).trans k0⟩
  have Z1 : Hd (w1.heap[w.heap.size + 1]? = some (.cells #[Value.int .i64 0, .slice none 0 0] 65 (0, 0))) := ⟨(hb.block _ (by simp)).trans k1⟩
  have C1 : Hd (w1.heap[w.heap.size + 1 + 1]? = some (.cells #[Value.int .i64 l0, .slice none 0 0] 65 (0, 0))) := ⟨(hb.block _ (by simp)).trans k2⟩
  simp only [World.size_alloc] at hF
  have B1 : Hd (Below w.heap.size w w1) := ⟨Below.next h3 hb⟩
  have O1_1 : Hd (OwC w1 [.slice y1 n1 b1] F1 l1 ∧ ∀ x, F1 x → w.heap.size + 3 ≤ x ∧ x < w1.heap.size) := ⟨hE, fun x hx => ⟨by have := hF x hx; omega, owC_ok.lt hE x hx⟩⟩
  clear hE hF hb h3 k0 k1 k2
  have z1 := cellsA C1.out 1 rfl
  have g1 := freeA C1.out 1
  have CF : Hd ((w1.setCell ⟨w.heap.size + 1 + 1, 1, none⟩ (.slice y1 n1 b1)).heap[w.heap.size + 1 + 1]? = some (.cells (List.toArray [.int .i64 l0, .slice y1 n1 b1]) 65 (0, 0))) := ⟨setL (C1.out) 1 _ rfl⟩
  have ZF : Hd ((w1.setCell ⟨w.heap.size + 1 + 1, 1, none⟩ (.slice y1 n1 b1)).heap[w.heap.size + 1]? = some (.cells #[Value.int .i64 0, .slice none 0 0] 65 (0, 0))) := ⟨block_set (Z1.out) (by omega)⟩
  have hrg := rangeA CF.out
  have htz := thereA ZF.out 0 2 (by simp)
  have honz : Hd ((#[.int .i64 l0, .slice y1 n1 b1] : Array Value).all (·.oneCell') = true) := ⟨by simp [Value.oneCell']⟩
  obtain ⟨VF, hVF⟩ : ∃ V, (w1.setCell ⟨w.heap.size + 1 + 1, 1, none⟩ (.slice y1 n1 b1)).setCells (w.heap.size + 1) 0 [.int .i64 l0, .slice y1 n1 b1] = V := ⟨_, rfl⟩
  have HVF : Hd ((w1.setCell ⟨w.heap.size + 1 + 1, 1, none⟩ (.slice y1 n1 b1)).setCells (w.heap.size + 1) 0 [.int .i64 l0, .slice y1 n1 b1] = VF) := ⟨hVF⟩
  clear hVF
  have ZR : Hd (VF.heap[w.heap.size + 1]? = some (.cells #[.int .i64 l0, .slice y1 n1 b1] 65 (0, 0))) := ⟨by rw [← HVF.out]; exact setCells_lay ZF.out _ 0 (by simp) rfl⟩
  have BR : Hd (Below w.heap.size w VF) := ⟨by rw [← HVF.out]; exact bsetN (by omega) _ _ (bset (B1.out) _ (by omega))⟩
  have OR1 : Hd (OwC VF [.slice y1 n1 b1] F1 l1) := ⟨by rw [← HVF.out]; exact owC_ok.keep O1_1.out.1 (fun b hb => block_setN (block_set (rfl) (by have := (O1_1.out.2 b hb).1; omega)) _ _ (by have := (O1_1.out.2 b hb).1; omega))⟩
  have LO : Hd (∀ x, F1 x → w.heap.size ≤ x) := ⟨fun x hx => by
    have := (O1_1.out.2 x hx).1
    omega⟩
  clear A1 Z1 C1 B1 O1_1 CF ZF
  go_wp2_with (first | (show wpList _ _ _ (Oper.mk _ (Op.load 65 _) _ _ _ _ :: _) _ _; refine wpList_load_to 65 _ rfl rfl (w.heap.size + 1 + 1) 0 rfl [.int .i64 l0, .slice y1 n1 b1] hrg Tryz.underlying65 rfl infoCell ?_) | (show wpList _ _ _ (Oper.mk _ (Op.store 65 _ _) _ _ _ _ :: _) _ _; refine wpList_store_to 65 _ _ rfl rfl (w.heap.size + 1) 0 #[.int .i64 l0, .slice y1 n1 b1] rfl rfl htz infoCell honz.out HVF.out ?_))
  refine bodyPost_ret (results_cell_row rfl _ _ (w.heap.size + 1) _ _ (0, 0) _ rfl ZR.out Tryz.underlying65 rfl (by kernel_rfl)) rfl ?_
  exact ⟨⟨[.int .i64 l0, .slice y1 n1 b1], rfl, fun x => F1 x, ⟨y1, n1, b1, F1, rfl, OR1.out, fun x => Iff.rfl⟩, LO.out⟩, BR.out⟩

end Go.Proofs.YtlididoalekeoaaGreatDoor
