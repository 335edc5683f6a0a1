/- The laws' copy of a Rec. -/
import Derived.Test.YtbeiocngiippgabDoorDpRec
namespace Go.Proofs.YtbeiocngiippgabDoor
set_option maxRecDepth 4000
open Go.RowKit

set_option maxHeartbeats 16000000 in
theorem toRec_rd (cs : List Value) (a : RecD) (w : World) (h : RdRec w cs a) (hw : wtRec a ≤ 1073741824) :
    Calls Tryd.prog 21 #[.agg cs.toArray] w (AnsAgg OwRec a w) := by
  obtain ⟨l0, ⟨l1, l2, l3, l4, l5, l6, l7⟩, l8, l9, l10, l11, l12⟩ := a
  simp only [RdRec] at h
  obtain ⟨x3, m3, d3, x5, m5, d5, rfl, z8, r1⟩ := h
  unfold wtRec at hw
  dsimp only at hw
  have R1 : Hd (RdRow w [.string l1, .int .i64 l2, .slice x3 m3 d3, .int .i64 l4, .slice x5 m5 d5, .int .i64 l6, .bool l7] (⟨l1, l2, l3, l4, l5, l6, l7⟩ : RowD) ∧ wtRow (⟨l1, l2, l3, l4, l5, l6, l7⟩ : RowD) ≤ 1073741824) := ⟨r1, by omega⟩
  have Z8 : Hd (l8.size ≤ maxLen) := ⟨z8⟩
  clear hw r1 z8
  go_enter Tryd.func21, Tryd.ntmps21
  go_wp2_with fail
  generalize hA : Obj.cells #[Value.int .i64 l0, .string l1, .int .i64 l2, .slice x3 m3 d3, .int .i64 l4, .slice x5 m5 d5, .int .i64 l6, .bool l7, .string l8, .int .i64 l9, .int .i64 l10, .int .i64 l11, .int .i64 l12] 43 = A
  generalize hB : Obj.cells #[Value.int .i64 0, .string ⟨#[]⟩, .int .i64 0, .slice none 0 0, .int .i64 0, .slice none 0 0, .int .i64 0, .bool false, .string ⟨#[]⟩, .int .i64 0, .int .i64 0, .int .i64 0, .int .i64 0] 47 = B
  generalize hC : Obj.cells #[Value.int .i64 l0, .string ⟨#[]⟩, .int .i64 0, .slice none 0 0, .int .i64 0, .slice none 0 0, .int .i64 0, .bool false, .string ⟨#[]⟩, .int .i64 0, .int .i64 0, .int .i64 0, .int .i64 0] 47 = C
  have h3 : Below w.heap.size w (((w.alloc A).alloc B).alloc C) := below_lit3 w A B C
  refine (toRow_rd _ (⟨l1, l2, l3, l4, l5, l6, l7⟩ : RowD) _ (rdRow_ok.below R1.out.1 h3) R1.out.2).mono ?_
  rintro e w1 ⟨⟨csr, rfl, F1, hE, hF⟩, hb⟩
  have hE0 := hE
  simp only [OwRow] at hE0
  obtain ⟨y3, n3, b3, y5, n5, b5, _, _, rfl, _⟩ := hE0
  obtain ⟨k0, k1, k2⟩ := laid3 w A B C
  subst hA hB hC
  have A1 : Hd (w1.heap[w.heap.size]? = some (.cells #[Value.int .i64 l0, .string l1, .int .i64 l2, .slice x3 m3 d3, .int .i64 l4, .slice x5 m5 d5, .int .i64 l6, .bool l7, .string l8, .int .i64 l9, .int .i64 l10, .int .i64 l11, .int .i64 l12] 43 (0, 0))) := ⟨(hb.block _ (by simp; omega)).trans k0⟩
  have Z1 : Hd (w1.heap[w.heap.size + 1]? = some (.cells #[Value.int .i64 0, .string ⟨#[]⟩, .int .i64 0, .slice none 0 0, .int .i64 0, .slice none 0 0, .int .i64 0, .bool false, .string ⟨#[]⟩, .int .i64 0, .int .i64 0, .int .i64 0, .int .i64 0] 47 (0, 0))) := ⟨(hb.block _ (by simp)).trans k1⟩
  have C1 : Hd (w1.heap[w.heap.size + 1 + 1]? = some (.cells #[Value.int .i64 l0, .string ⟨#[]⟩, .int .i64 0, .slice none 0 0, .int .i64 0, .slice none 0 0, .int .i64 0, .bool false, .string ⟨#[]⟩, .int .i64 0, .int .i64 0, .int .i64 0, .int .i64 0] 47 (0, 0))) := ⟨(hb.block _ (by simp)).trans k2⟩
  simp only [World.size_alloc] at hF
  have B1 : Hd (Below w.heap.size w w1) := ⟨Below.next h3 hb⟩
  have O1_1 : Hd (OwRow w1 [.string l1, .int .i64 l2, .slice y3 n3 b3, .int .i64 l4, .slice y5 n5 b5, .int .i64 l6, .bool l7] F1 (⟨l1, l2, l3, l4, l5, l6, l7⟩ : RowD) ∧ ∀ x, F1 x → w.heap.size + 3 ≤ x ∧ x < w1.heap.size) := ⟨hE, fun x hx => ⟨by have := hF x hx; omega, owRow_ok.lt hE x hx⟩⟩
  clear hE hF hb h3 k0 k1 k2
  have hth1 := thereA C1.out 1 7 (by simp)
  have hon1 : Hd ((#[.string l1, .int .i64 l2, .slice y3 n3 b3, .int .i64 l4, .slice y5 n5 b5, .int .i64 l6, .bool l7] : Array Value).all (·.oneCell') = true) := ⟨by simp [Value.oneCell']⟩
  obtain ⟨V1, hV1⟩ : ∃ V, w1.setCells (w.heap.size + 1 + 1) 1 [.string l1, .int .i64 l2, .slice y3 n3 b3, .int .i64 l4, .slice y5 n5 b5, .int .i64 l6, .bool l7] = V := ⟨_, rfl⟩
  have HV1 : Hd (w1.setCells (w.heap.size + 1 + 1) 1 [.string l1, .int .i64 l2, .slice y3 n3 b3, .int .i64 l4, .slice y5 n5 b5, .int .i64 l6, .bool l7] = V1) := ⟨hV1⟩
  clear hV1
  have A1s : Hd (V1.heap[w.heap.size]? = some (.cells #[Value.int .i64 l0, .string l1, .int .i64 l2, .slice x3 m3 d3, .int .i64 l4, .slice x5 m5 d5, .int .i64 l6, .bool l7, .string l8, .int .i64 l9, .int .i64 l10, .int .i64 l11, .int .i64 l12] 43 (0, 0))) := ⟨by rw [← HV1.out]; exact block_setN A1.out _ _ (by omega)⟩
  have Z1s : Hd (V1.heap[w.heap.size + 1]? = some (.cells #[Value.int .i64 0, .string ⟨#[]⟩, .int .i64 0, .slice none 0 0, .int .i64 0, .slice none 0 0, .int .i64 0, .bool false, .string ⟨#[]⟩, .int .i64 0, .int .i64 0, .int .i64 0, .int .i64 0] 47 (0, 0))) := ⟨by rw [← HV1.out]; exact block_setN Z1.out _ _ (by omega)⟩
  have C1s : Hd (V1.heap[w.heap.size + 1 + 1]? = some (.cells #[Value.int .i64 l0, .string l1, .int .i64 l2, .slice y3 n3 b3, .int .i64 l4, .slice y5 n5 b5, .int .i64 l6, .bool l7, .string ⟨#[]⟩, .int .i64 0, .int .i64 0, .int .i64 0, .int .i64 0] 47 (0, 0))) := ⟨by rw [← HV1.out]; exact setCells_lay C1.out _ 1 (by simp) rfl⟩
  have B1s : Hd (Below w.heap.size w V1) := ⟨by rw [← HV1.out]; exact bsetN (by omega) _ _ B1.out⟩
  have O1_1s : Hd (OwRow V1 [.string l1, .int .i64 l2, .slice y3 n3 b3, .int .i64 l4, .slice y5 n5 b5, .int .i64 l6, .bool l7] F1 (⟨l1, l2, l3, l4, l5, l6, l7⟩ : RowD) ∧ ∀ x, F1 x → w.heap.size + 3 ≤ x ∧ x < V1.heap.size) := ⟨by rw [← HV1.out]; exact ⟨owRow_ok.keep O1_1.out.1 (fun b hb => block_setN rfl _ _ (by have := (O1_1.out.2 b hb).1; omega)), fun x hx => ⟨(O1_1.out.2 x hx).1, by rw [setCells_size]; exact (O1_1.out.2 x hx).2⟩⟩⟩
  clear A1 Z1 C1 B1 O1_1
  have z8 := cellsA C1s.out 8 rfl
  have g8 := freeA C1s.out 8
  have c8 := cellsA A1s.out 8 rfl
  have z9 := cellsA C1s.out 9 rfl
  have g9 := freeA C1s.out 9
  have c9 := cellsA A1s.out 9 rfl
  have z10 := cellsA C1s.out 10 rfl
  have g10 := freeA C1s.out 10
  have c10 := cellsA A1s.out 10 rfl
  have z11 := cellsA C1s.out 11 rfl
  have g11 := freeA C1s.out 11
  have c11 := cellsA A1s.out 11 rfl
  have z12 := cellsA C1s.out 12 rfl
  have g12 := freeA C1s.out 12
  have c12 := cellsA A1s.out 12 rfl
  have CF : Hd ((((((V1.setCell ⟨w.heap.size + 1 + 1, 8, none⟩ (.string l8)).setCell ⟨w.heap.size + 1 + 1, 9, none⟩ (.int .i64 l9)).setCell ⟨w.heap.size + 1 + 1, 10, none⟩ (.int .i64 l10)).setCell ⟨w.heap.size + 1 + 1, 11, none⟩ (.int .i64 l11)).setCell ⟨w.heap.size + 1 + 1, 12, none⟩ (.int .i64 l12)).heap[w.heap.size + 1 + 1]? = some (.cells (List.toArray [.int .i64 l0, .string l1, .int .i64 l2, .slice y3 n3 b3, .int .i64 l4, .slice y5 n5 b5, .int .i64 l6, .bool l7, .string l8, .int .i64 l9, .int .i64 l10, .int .i64 l11, .int .i64 l12]) 47 (0, 0))) := ⟨setL (setL (setL (setL (setL (C1s.out) 8 _ rfl) 9 _ rfl) 10 _ rfl) 11 _ rfl) 12 _ rfl⟩
  have ZF : Hd ((((((V1.setCell ⟨w.heap.size + 1 + 1, 8, none⟩ (.string l8)).setCell ⟨w.heap.size + 1 + 1, 9, none⟩ (.int .i64 l9)).setCell ⟨w.heap.size + 1 + 1, 10, none⟩ (.int .i64 l10)).setCell ⟨w.heap.size + 1 + 1, 11, none⟩ (.int .i64 l11)).setCell ⟨w.heap.size + 1 + 1, 12, none⟩ (.int .i64 l12)).heap[w.heap.size + 1]? = some (.cells #[Value.int .i64 0, .string ⟨#[]⟩, .int .i64 0, .slice none 0 0, .int .i64 0, .slice none 0 0, .int .i64 0, .bool false, .string ⟨#[]⟩, .int .i64 0, .int .i64 0, .int .i64 0, .int .i64 0] 47 (0, 0))) := ⟨block_set (block_set (block_set (block_set (block_set (Z1s.out) (by omega)) (by omega)) (by omega)) (by omega)) (by omega)⟩
  have hrg := rangeA CF.out
  have htz := thereA ZF.out 0 13 (by simp)
  have honz : Hd ((#[.int .i64 l0, .string l1, .int .i64 l2, .slice y3 n3 b3, .int .i64 l4, .slice y5 n5 b5, .int .i64 l6, .bool l7, .string l8, .int .i64 l9, .int .i64 l10, .int .i64 l11, .int .i64 l12] : Array Value).all (·.oneCell') = true) := ⟨by simp [Value.oneCell']⟩
  obtain ⟨VF, hVF⟩ : ∃ V, (((((V1.setCell ⟨w.heap.size + 1 + 1, 8, none⟩ (.string l8)).setCell ⟨w.heap.size + 1 + 1, 9, none⟩ (.int .i64 l9)).setCell ⟨w.heap.size + 1 + 1, 10, none⟩ (.int .i64 l10)).setCell ⟨w.heap.size + 1 + 1, 11, none⟩ (.int .i64 l11)).setCell ⟨w.heap.size + 1 + 1, 12, none⟩ (.int .i64 l12)).setCells (w.heap.size + 1) 0 [.int .i64 l0, .string l1, .int .i64 l2, .slice y3 n3 b3, .int .i64 l4, .slice y5 n5 b5, .int .i64 l6, .bool l7, .string l8, .int .i64 l9, .int .i64 l10, .int .i64 l11, .int .i64 l12] = V := ⟨_, rfl⟩
  have HVF : Hd ((((((V1.setCell ⟨w.heap.size + 1 + 1, 8, none⟩ (.string l8)).setCell ⟨w.heap.size + 1 + 1, 9, none⟩ (.int .i64 l9)).setCell ⟨w.heap.size + 1 + 1, 10, none⟩ (.int .i64 l10)).setCell ⟨w.heap.size + 1 + 1, 11, none⟩ (.int .i64 l11)).setCell ⟨w.heap.size + 1 + 1, 12, none⟩ (.int .i64 l12)).setCells (w.heap.size + 1) 0 [.int .i64 l0, .string l1, .int .i64 l2, .slice y3 n3 b3, .int .i64 l4, .slice y5 n5 b5, .int .i64 l6, .bool l7, .string l8, .int .i64 l9, .int .i64 l10, .int .i64 l11, .int .i64 l12] = VF) := ⟨hVF⟩
  clear hVF
  have ZR : Hd (VF.heap[w.heap.size + 1]? = some (.cells #[.int .i64 l0, .string l1, .int .i64 l2, .slice y3 n3 b3, .int .i64 l4, .slice y5 n5 b5, .int .i64 l6, .bool l7, .string l8, .int .i64 l9, .int .i64 l10, .int .i64 l11, .int .i64 l12] 47 (0, 0))) := ⟨by rw [← HVF.out]; exact setCells_lay ZF.out _ 0 (by simp) rfl⟩
  have BR : Hd (Below w.heap.size w VF) := ⟨by rw [← HVF.out]; exact bsetN (by omega) _ _ (bset (bset (bset (bset (bset (B1s.out) _ (by omega)) _ (by omega)) _ (by omega)) _ (by omega)) _ (by omega))⟩
  have OR1 : Hd (OwRow VF [.string l1, .int .i64 l2, .slice y3 n3 b3, .int .i64 l4, .slice y5 n5 b5, .int .i64 l6, .bool l7] F1 (⟨l1, l2, l3, l4, l5, l6, l7⟩ : RowD)) := ⟨by rw [← HVF.out]; exact owRow_ok.keep O1_1s.out.1 (fun b hb => block_setN (block_set (block_set (block_set (block_set (block_set (rfl) (by have := (O1_1s.out.2 b hb).1; omega)) (by have := (O1_1s.out.2 b hb).1; omega)) (by have := (O1_1s.out.2 b hb).1; omega)) (by have := (O1_1s.out.2 b hb).1; omega)) (by have := (O1_1s.out.2 b hb).1; omega)) _ _ (by have := (O1_1s.out.2 b hb).1; omega))⟩
  have LO : Hd (∀ x, F1 x → w.heap.size ≤ x) := ⟨fun x hx => by
    have := (O1_1s.out.2 x hx).1
    omega⟩
  clear A1s Z1s C1s B1s O1_1s CF ZF
  go_wp2_with (first | (show wpList _ _ _ (Oper.mk _ (Op.store 32 _ _) _ _ _ _ :: _) _ _; refine wpList_store_to 32 _ _ rfl rfl (w.heap.size + 1 + 1) 1 #[.string l1, .int .i64 l2, .slice y3 n3 b3, .int .i64 l4, .slice y5 n5 b5, .int .i64 l6, .bool l7] rfl rfl hth1 infoRow hon1.out HV1.out ?_) | (show wpList _ _ _ (Oper.mk _ (Op.load 47 _) _ _ _ _ :: _) _ _; refine wpList_load_to 47 _ rfl rfl (w.heap.size + 1 + 1) 0 rfl [.int .i64 l0, .string l1, .int .i64 l2, .slice y3 n3 b3, .int .i64 l4, .slice y5 n5 b5, .int .i64 l6, .bool l7, .string l8, .int .i64 l9, .int .i64 l10, .int .i64 l11, .int .i64 l12] hrg Tryd.underlying47 rfl infoRec ?_) | (show wpList _ _ _ (Oper.mk _ (Op.store 47 _ _) _ _ _ _ :: _) _ _; refine wpList_store_to 47 _ _ rfl rfl (w.heap.size + 1) 0 #[.int .i64 l0, .string l1, .int .i64 l2, .slice y3 n3 b3, .int .i64 l4, .slice y5 n5 b5, .int .i64 l6, .bool l7, .string l8, .int .i64 l9, .int .i64 l10, .int .i64 l11, .int .i64 l12] rfl rfl htz infoRec honz.out HVF.out ?_))
  refine bodyPost_ret (results_cell_row rfl _ _ (w.heap.size + 1) _ _ (0, 0) _ rfl ZR.out Tryd.underlying47 rfl (by kernel_rfl)) rfl ?_
  exact ⟨⟨[.int .i64 l0, .string l1, .int .i64 l2, .slice y3 n3 b3, .int .i64 l4, .slice y5 n5 b5, .int .i64 l6, .bool l7, .string l8, .int .i64 l9, .int .i64 l10, .int .i64 l11, .int .i64 l12], rfl, fun x => F1 x, ⟨y3, n3, b3, y5, n5, b5, F1, rfl, Z8.out, OR1.out, fun x => Iff.rfl⟩, LO.out⟩, BR.out⟩

end Go.Proofs.YtbeiocngiippgabDoor
