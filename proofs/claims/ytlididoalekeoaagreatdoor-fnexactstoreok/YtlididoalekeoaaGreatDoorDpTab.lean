/- What the laws do with a Tab. -/
import Derived.Test.YtlididoalekeoaaGreatDoorDeepA
import Derived.Test.YtlididoalekeoaaGreatDoorDpMarkS
import Derived.Test.YtlididoalekeoaaGreatDoorDpRowS
import Derived.Test.YtlididoalekeoaaGreatDoorTabDat
namespace Go.Proofs.YtlididoalekeoaaGreatDoor
set_option maxRecDepth 4000
open Go.RowKit

def RdTab : Rd TabD := fun w cs a => ∃ (x0 : Option Addr) (m0 d0 : Nat) (x2 : Option Addr) (m2 d2 : Nat), cs = [.slice x0 m0 d0, .int .i64 a.phase, .slice x2 m2 d2] ∧ RdRowS w [.slice x0 m0 d0] (a.rows) ∧ RdMarkS w [.slice x2 m2 d2] (a.marks)
def RcTab : Rd TabD := fun w cs a => ∃ (x0 : Option Addr) (m0 d0 : Nat) (x2 : Option Addr) (m2 d2 : Nat), cs = [.slice x0 m0 d0, .int .i64 a.phase, .slice x2 m2 d2] ∧ RcRowS w [.slice x0 m0 d0] (a.rows) ∧ RcMarkS w [.slice x2 m2 d2] (a.marks)
def OwTab : Ow TabD := fun w cs F a => ∃ (x0 : Option Addr) (m0 d0 : Nat) (x2 : Option Addr) (m2 d2 : Nat) (F0 : Fp) (F2 : Fp), cs = [.slice x0 m0 d0, .int .i64 a.phase, .slice x2 m2 d2] ∧ OwRowS w [.slice x0 m0 d0] F0 (a.rows) ∧ OwMarkS w [.slice x2 m2 d2] F2 (a.marks) ∧ (∀ x, F0 x → ¬ F2 x) ∧ (∀ x, F x ↔ F0 x ∨ F2 x)
theorem rdTab_ok : RdOk 3 RdTab := ⟨fun ⟨_, _, _, _, _, _, e, _⟩ => by rw [e]; rfl, fun ⟨x0, m0, d0, x2, m2, d2, e, r0, r2⟩ hs => ⟨x0, m0, d0, x2, m2, d2, e, rdRowS_ok.keep r0 hs, rdMarkS_ok.keep r2 hs⟩⟩
theorem rcTab_ok : RdOk 3 RcTab := ⟨fun ⟨_, _, _, _, _, _, e, _⟩ => by rw [e]; rfl, fun ⟨x0, m0, d0, x2, m2, d2, e, r0, r2⟩ hs => ⟨x0, m0, d0, x2, m2, d2, e, rcRowS_ok.keep r0 hs, rcMarkS_ok.keep r2 hs⟩⟩
theorem rcTab_w {w : World} {cs : List Value} {a : TabD} (h : RcTab w cs a) : RdTab w cs a := by
  obtain ⟨x0, m0, d0, x2, m2, d2, e, r0, r2⟩ := h
  exact ⟨x0, m0, d0, x2, m2, d2, e, rcRowS_w r0, rcMarkS_w r2⟩
theorem owTab_ok : OwOk 3 OwTab RcTab where
  len := fun ⟨_, _, _, _, _, _, _, _, e, _⟩ => by rw [e]; rfl
  lt := fun {w _ F _} ⟨x0, m0, d0, x2, m2, d2, F0, F2, e, r0, r2, _, hF⟩ x hx => by
    rcases (hF x).1 hx with hx | hx
    · exact owRowS_ok.lt r0 x hx
    · exact owMarkS_ok.lt r2 x hx
  keep := fun ⟨x0, m0, d0, x2, m2, d2, F0, F2, e, r0, r2, e0, hF⟩ hs => ⟨x0, m0, d0, x2, m2, d2, F0, F2, e, owRowS_ok.keep r0 (fun b hb => hs b ((hF b).2 (.inl hb))), owMarkS_ok.keep r2 (fun b hb => hs b ((hF b).2 (.inr (hb)))), e0, hF⟩
  rd := fun ⟨x0, m0, d0, x2, m2, d2, F0, F2, e, r0, r2, _, _⟩ => ⟨x0, m0, d0, x2, m2, d2, e, owRowS_ok.rd r0, owMarkS_ok.rd r2⟩
theorem infoTab : (Tryz.prog.info? 40).map (·.size) = some 3 := by kernel_rfl
def wtTab (a : TabD) : Nat := wtRowS (a.rows) + wtMarkS (a.marks)

set_option maxHeartbeats 4000000 in
theorem szTab_rd (cs : List Value) (a : TabD) (n : Int) (w : World) (h : RdTab w cs a) (hn : 0 ≤ n ∧ n ≤ 1048576) :
    Calls Tryz.prog 10 #[.agg cs.toArray, .int .i64 n] w (SzOut n (wtTab a) w) := by
  obtain ⟨l0, l1, l2⟩ := a
  simp only [RdTab] at h
  obtain ⟨x0, m0, d0, x2, m2, d2, rfl, r0, r2⟩ := h
  unfold wtTab
  dsimp only
  have R0 : Hd (RdRowS w [.slice x0 m0 d0] l0) := ⟨r0⟩
  have R2 : Hd (RdMarkS w [.slice x2 m2 d2] l2) := ⟨r2⟩
  have N0 : Hd (0 ≤ n ∧ n ≤ n ∧ n ≤ 1048576 ∧ ((0 : Nat) : Int) + n ≤ n) := ⟨by omega⟩
  clear hn r0 r2
  go_enter Tryz.func10, Tryz.ntmps10
  go_wp2_with fail
  refine (szRowS_rd x0 m0 d0 l0 (n) _ (rdRowS_ok.below R0.out (below_lit w _)) ⟨by have := N0.out; omega, by have := N0.out; omega⟩).mono ?_
  rintro e w1 ⟨⟨s1, rfl, hs1, hs2, hs3⟩, hb⟩
  have K1 : Hd (w1.heap[w.heap.size]? = some (.cells #[.slice x0 m0 d0, .int .i64 l1, .slice x2 m2 d2] 29 (0, 0))) := ⟨(hb.block _ (by simp)).trans (heap_alloc_new w _)⟩
  have B1 : Hd (Below w.heap.size w w1) := ⟨Below.next (below_lit w _) hb⟩
  have M1 : Hd (s1 ≤ n ∧ n ≤ 1048576 ∧ (0 ≤ s1 → ((wtRowS l0 : Nat) : Int) + s1 ≤ n)) := ⟨by have := N0.out; refine ⟨by omega, by omega, fun hh => ?_⟩; have := hs3 hh; omega⟩
  clear hs1 hs2 hs3 hb
  by_cases hz1 : s1 < 0
  · go_wp2_with fail
    go_ret
    exact ⟨⟨-1, rfl, by omega, by have := N0.out; omega, fun h => by omega⟩, B1.out⟩
  have N1 : Hd (0 ≤ s1 ∧ s1 ≤ n ∧ n ≤ 1048576 ∧ ((wtRowS l0 : Nat) : Int) + s1 ≤ n) := ⟨by have := M1.out; omega⟩
  have c1 := cellsA K1.out 1 rfl
  have c2 := cellsA K1.out 2 rfl
  go_wp2_with fail
  clear hz1
  clear c1 c2
  refine (szMarkS_rd x2 m2 d2 l2 (s1) _ (rdMarkS_ok.below R2.out B1.out) ⟨by have := N1.out; omega, by have := N1.out; omega⟩).mono ?_
  rintro e w2 ⟨⟨s2, rfl, hs1, hs2, hs3⟩, hb⟩
  have K2 : Hd (w2.heap[w.heap.size]? = some (.cells #[.slice x0 m0 d0, .int .i64 l1, .slice x2 m2 d2] 29 (0, 0))) := ⟨(hb.block _ (lt_of_block K1.out)).trans K1.out⟩
  have B2 : Hd (Below w.heap.size w w2) := ⟨Below.next B1.out hb⟩
  have M2 : Hd (s2 ≤ n ∧ n ≤ 1048576 ∧ (0 ≤ s2 → ((wtRowS l0 + wtMarkS l2 : Nat) : Int) + s2 ≤ n)) := ⟨by have := N1.out; refine ⟨by omega, by omega, fun hh => ?_⟩; have := hs3 hh; omega⟩
  clear hs1 hs2 hs3 hb
  by_cases hz2 : s2 < 0
  · go_wp2_with fail
    go_ret
    exact ⟨⟨-1, rfl, by omega, by have := N0.out; omega, fun h => by omega⟩, B2.out⟩
  have N2 : Hd (0 ≤ s2 ∧ s2 ≤ n ∧ n ≤ 1048576 ∧ ((wtRowS l0 + wtMarkS l2 : Nat) : Int) + s2 ≤ n) := ⟨by have := M2.out; omega⟩
  go_wp2_with fail
  go_ret
  exact ⟨⟨s2, rfl, by have := N2.out; omega, by have := N2.out; omega, fun _ => N2.out.2.2.2⟩, B2.out⟩

set_option maxHeartbeats 4000000 in
theorem eqTab_rd (c1 c2 : List Value) (a : TabD) (w : World) (h1 : RdTab w c1 a) (h2 : RdTab w c2 a) (hw : wtTab a ≤ 1073741824) :
    Calls Tryz.prog 21 #[.agg c1.toArray, .agg c2.toArray] w fun e w' => e = .returned (.bool true) ∧ Below w.heap.size w w' := by
  obtain ⟨l0, l1, l2⟩ := a
  simp only [RdTab] at h1 h2
  obtain ⟨x0, m0, d0, x2, m2, d2, rfl, r0, r2⟩ := h1
  obtain ⟨y0, n0, b0, y2, n2, b2, rfl, t0, t2⟩ := h2
  unfold wtTab at hw
  dsimp only at hw
  have R0 : Hd (RdRowS w [.slice x0 m0 d0] l0 ∧ RdRowS w [.slice y0 n0 b0] l0 ∧ wtRowS l0 ≤ 1073741824) := ⟨r0, t0, by omega⟩
  have R2 : Hd (RdMarkS w [.slice x2 m2 d2] l2 ∧ RdMarkS w [.slice y2 n2 b2] l2 ∧ wtMarkS l2 ≤ 1073741824) := ⟨r2, t2, by omega⟩
  have f1 : (l1 != l1) = false := by simp
  clear hw r0 t0 r2 t2
  go_enter Tryz.func21, Tryz.ntmps21
  go_wp2_with fail
  generalize hA : Obj.cells #[Value.slice x0 m0 d0, .int .i64 l1, .slice x2 m2 d2] 40 = A
  generalize hB : Obj.cells #[Value.slice y0 n0 b0, .int .i64 l1, .slice y2 n2 b2] 40 = B
  have h0 : Below w.heap.size w ((w.alloc A).alloc B) := below_lit2 w A B
  refine (eqRowS_rd x0 m0 d0 y0 n0 b0 l0 _ (rdRowS_ok.below R0.out.1 h0) (rdRowS_ok.below R0.out.2.1 h0) R0.out.2.2).mono ?_
  rintro e w1 ⟨rfl, hb⟩
  obtain ⟨k1, k2⟩ := laid2 w A B
  subst hA hB
  have K1 : Hd (w1.heap[w.heap.size]? = some (.cells #[Value.slice x0 m0 d0, .int .i64 l1, .slice x2 m2 d2] 40 (0, 0))) := ⟨(hb.block _ (by simp; omega)).trans k1⟩
  have G1 : Hd (w1.heap[w.heap.size + 1]? = some (.cells #[Value.slice y0 n0 b0, .int .i64 l1, .slice y2 n2 b2] 40 (0, 0))) := ⟨(hb.block _ (by simp)).trans k2⟩
  have B1 : Hd (Below w.heap.size w w1) := ⟨Below.next h0 hb⟩
  clear hb h0 k1 k2
  have u1 := cellsA K1.out 1 rfl
  have v1 := cellsA G1.out 1 rfl
  have u2 := cellsA K1.out 2 rfl
  have v2 := cellsA G1.out 2 rfl
  go_wp2_with fail
  clear u1 v1 u2 v2
  refine (eqMarkS_rd x2 m2 d2 y2 n2 b2 l2 _ (rdMarkS_ok.below R2.out.1 B1.out) (rdMarkS_ok.below R2.out.2.1 B1.out) R2.out.2.2).mono ?_
  rintro e w2 ⟨rfl, hb⟩
  have K2 : Hd (w2.heap[w.heap.size]? = some (.cells #[Value.slice x0 m0 d0, .int .i64 l1, .slice x2 m2 d2] 40 (0, 0))) := ⟨(hb.block _ (lt_of_block K1.out)).trans K1.out⟩
  have G2 : Hd (w2.heap[w.heap.size + 1]? = some (.cells #[Value.slice y0 n0 b0, .int .i64 l1, .slice y2 n2 b2] 40 (0, 0))) := ⟨(hb.block _ (lt_of_block G1.out)).trans G1.out⟩
  have B2 : Hd (Below w.heap.size w w2) := ⟨Below.next B1.out hb⟩
  clear hb
  go_wp2_with fail
  go_ret
  exact ⟨rfl, B2.out⟩

set_option maxHeartbeats 4000000 in
theorem toTab_rd (cs : List Value) (a : TabD) (w : World) (h : RdTab w cs a) (hw : wtTab a ≤ 1073741824) :
    Calls Tryz.prog 15 #[.agg cs.toArray] w (AnsAgg OwTab a w) := by
  obtain ⟨l0, l1, l2⟩ := a
  simp only [RdTab] at h
  obtain ⟨x0, m0, d0, x2, m2, d2, rfl, r0, r2⟩ := h
  unfold wtTab at hw
  dsimp only at hw
  have R0 : Hd (RdRowS w [.slice x0 m0 d0] l0 ∧ wtRowS l0 ≤ 1073741824) := ⟨r0, by omega⟩
  have R2 : Hd (RdMarkS w [.slice x2 m2 d2] l2 ∧ wtMarkS l2 ≤ 1073741824) := ⟨r2, by omega⟩
  clear hw r0 r2
  go_enter Tryz.func15, Tryz.ntmps15
  go_wp2_with fail
  generalize hA : Obj.cells #[Value.slice x0 m0 d0, .int .i64 l1, .slice x2 m2 d2] 29 = A
  generalize hB : Obj.cells #[Value.slice none 0 0, .int .i64 0, .slice none 0 0] 40 = B
  have h3 : Below w.heap.size w (((w.alloc A).alloc B).alloc B) := below_lit3 w A B B
  refine (toRowS_rd x0 m0 d0 l0 _ (rdRowS_ok.below R0.out.1 h3) R0.out.2).mono ?_
  rintro e w1 ⟨⟨y0, n0, b0, rfl, F0, hE, hF⟩, hb⟩
  obtain ⟨k0, k1, k2⟩ := laid3 w A B B
  subst hA hB
  have A1 : Hd (w1.heap[w.heap.size]? = some (.cells #[Value.slice x0 m0 d0, .int .i64 l1, .slice x2 m2 d2] 29 (0, 0))) := ⟨(hb.block _ (by simp; omega)).trans k0⟩
  have Z1 : Hd (w1.heap[w.heap.size + 1]? = some (.cells #[Value.slice none 0 0, .int .i64 0, .slice none 0 0] 40 (0, 0))) := ⟨(hb.block _ (by simp)).trans k1⟩
  have C1 : Hd (w1.heap[w.heap.size + 1 + 1]? = some (.cells #[Value.slice none 0 0, .int .i64 0, .slice none 0 0] 40 (0, 0))) := ⟨(hb.block _ (by simp)).trans k2⟩
  simp only [World.size_alloc] at hF
  have B1 : Hd (Below w.heap.size w w1) := ⟨Below.next h3 hb⟩
  have O0_1 : Hd (OwRowS w1 [.slice y0 n0 b0] F0 l0 ∧ ∀ x, F0 x → w.heap.size + 3 ≤ x ∧ x < w1.heap.size) := ⟨hE, fun x hx => ⟨by have := hF x hx; omega, owRowS_ok.lt hE x hx⟩⟩
  clear hE hF hb h3 k0 k1 k2
  have z0 := cellsA C1.out 0 rfl
  have g0 := freeA C1.out 0
  have z1 := cellsA C1.out 1 rfl
  have g1 := freeA C1.out 1
  have c1 := cellsA A1.out 1 rfl
  have c2 := cellsA (show ((w1.setCell ⟨w.heap.size + 1 + 1, 0, none⟩ (.slice y0 n0 b0)).setCell ⟨w.heap.size + 1 + 1, 1, none⟩ (.int .i64 l1)).heap[w.heap.size]? = some (.cells #[Value.slice x0 m0 d0, .int .i64 l1, .slice x2 m2 d2] 29 (0, 0)) from block_set (block_set (A1.out) (by omega)) (by omega)) 2 rfl
  have A2 : Hd (((w1.setCell ⟨w.heap.size + 1 + 1, 0, none⟩ (.slice y0 n0 b0)).setCell ⟨w.heap.size + 1 + 1, 1, none⟩ (.int .i64 l1)).heap[w.heap.size]? = some (.cells #[Value.slice x0 m0 d0, .int .i64 l1, .slice x2 m2 d2] 29 (0, 0))) := ⟨block_set (block_set (A1.out) (by omega)) (by omega)⟩
  have Z2 : Hd (((w1.setCell ⟨w.heap.size + 1 + 1, 0, none⟩ (.slice y0 n0 b0)).setCell ⟨w.heap.size + 1 + 1, 1, none⟩ (.int .i64 l1)).heap[w.heap.size + 1]? = some (.cells #[Value.slice none 0 0, .int .i64 0, .slice none 0 0] 40 (0, 0))) := ⟨block_set (block_set (Z1.out) (by omega)) (by omega)⟩
  have C2 : Hd (((w1.setCell ⟨w.heap.size + 1 + 1, 0, none⟩ (.slice y0 n0 b0)).setCell ⟨w.heap.size + 1 + 1, 1, none⟩ (.int .i64 l1)).heap[w.heap.size + 1 + 1]? = some (.cells #[Value.slice y0 n0 b0, .int .i64 l1, .slice none 0 0] 40 (0, 0))) := ⟨setL (setL (C1.out) 0 _ rfl) 1 _ rfl⟩
  have B2 : Hd (Below w.heap.size w ((w1.setCell ⟨w.heap.size + 1 + 1, 0, none⟩ (.slice y0 n0 b0)).setCell ⟨w.heap.size + 1 + 1, 1, none⟩ (.int .i64 l1))) := ⟨bset (bset (B1.out) _ (by omega)) _ (by omega)⟩
  have O0_2 : Hd (OwRowS ((w1.setCell ⟨w.heap.size + 1 + 1, 0, none⟩ (.slice y0 n0 b0)).setCell ⟨w.heap.size + 1 + 1, 1, none⟩ (.int .i64 l1)) [.slice y0 n0 b0] F0 l0 ∧ ∀ x, F0 x → w.heap.size + 3 ≤ x ∧ x < ((w1.setCell ⟨w.heap.size + 1 + 1, 0, none⟩ (.slice y0 n0 b0)).setCell ⟨w.heap.size + 1 + 1, 1, none⟩ (.int .i64 l1)).heap.size) := ⟨owRowS_ok.keep O0_1.out.1 (fun b hb => block_set (block_set (rfl) (by have := (O0_1.out.2 b hb).1; omega)) (by have := (O0_1.out.2 b hb).1; omega)), fun x hx => ⟨(O0_1.out.2 x hx).1, by simp only [World.size_setCell]; exact (O0_1.out.2 x hx).2⟩⟩
  go_wp2_with fail
  clear A1 Z1 C1 B1 O0_1 z0 g0 z1 g1 c1 c2
  generalize (w1.setCell ⟨w.heap.size + 1 + 1, 0, none⟩ (.slice y0 n0 b0)).setCell ⟨w.heap.size + 1 + 1, 1, none⟩ (.int .i64 l1) = w2 at *
  refine (toMarkS_rd x2 m2 d2 l2 _ (rdMarkS_ok.below R2.out.1 B2.out) R2.out.2).mono ?_
  rintro e w3 ⟨⟨y2, n2, b2, rfl, F2, hE, hF⟩, hb⟩
  have A3 : Hd (w3.heap[w.heap.size]? = some (.cells #[Value.slice x0 m0 d0, .int .i64 l1, .slice x2 m2 d2] 29 (0, 0))) := ⟨(hb.block _ (lt_of_block A2.out)).trans A2.out⟩
  have Z3 : Hd (w3.heap[w.heap.size + 1]? = some (.cells #[Value.slice none 0 0, .int .i64 0, .slice none 0 0] 40 (0, 0))) := ⟨(hb.block _ (lt_of_block Z2.out)).trans Z2.out⟩
  have C3 : Hd (w3.heap[w.heap.size + 1 + 1]? = some (.cells #[Value.slice y0 n0 b0, .int .i64 l1, .slice none 0 0] 40 (0, 0))) := ⟨(hb.block _ (lt_of_block C2.out)).trans C2.out⟩
  have B3 : Hd (Below w.heap.size w w3) := ⟨Below.next B2.out hb⟩
  have O0_3 : Hd (OwRowS w3 [.slice y0 n0 b0] F0 l0 ∧ ∀ x, F0 x → w.heap.size + 3 ≤ x ∧ x < w3.heap.size) := ⟨owRowS_ok.below O0_2.out.1 hb, fun x hx => ⟨(O0_2.out.2 x hx).1, by have := (O0_2.out.2 x hx).2; have := hb.size; omega⟩⟩
  have O2_3 : Hd (OwMarkS w3 [.slice y2 n2 b2] F2 l2 ∧ ∀ x, F2 x → w.heap.size + 3 ≤ x ∧ x < w3.heap.size) := ⟨hE, fun x hx => ⟨by have := hF x hx; have := lt_of_block C2.out; omega, owMarkS_ok.lt hE x hx⟩⟩
  have X0_2 : Hd (∀ x, F0 x → ¬ F2 x) := ⟨fun x hx hy => by have := (O0_2.out.2 x hx).2; have := hF x hy; omega⟩
  clear hE hF hb A2 Z2 C2 B2 O0_2
  have z2 := cellsA C3.out 2 rfl
  have g2 := freeA C3.out 2
  have CF : Hd ((w3.setCell ⟨w.heap.size + 1 + 1, 2, none⟩ (.slice y2 n2 b2)).heap[w.heap.size + 1 + 1]? = some (.cells (List.toArray [.slice y0 n0 b0, .int .i64 l1, .slice y2 n2 b2]) 40 (0, 0))) := ⟨setL (C3.out) 2 _ rfl⟩
  have ZF : Hd ((w3.setCell ⟨w.heap.size + 1 + 1, 2, none⟩ (.slice y2 n2 b2)).heap[w.heap.size + 1]? = some (.cells #[Value.slice none 0 0, .int .i64 0, .slice none 0 0] 40 (0, 0))) := ⟨block_set (Z3.out) (by omega)⟩
  have hrg := rangeA CF.out
  have htz := thereA ZF.out 0 3 (by simp)
  have honz : Hd ((#[.slice y0 n0 b0, .int .i64 l1, .slice y2 n2 b2] : Array Value).all (·.oneCell') = true) := ⟨by simp [Value.oneCell']⟩
  obtain ⟨VF, hVF⟩ : ∃ V, (w3.setCell ⟨w.heap.size + 1 + 1, 2, none⟩ (.slice y2 n2 b2)).setCells (w.heap.size + 1) 0 [.slice y0 n0 b0, .int .i64 l1, .slice y2 n2 b2] = V := ⟨_, rfl⟩
  have HVF : Hd ((w3.setCell ⟨w.heap.size + 1 + 1, 2, none⟩ (.slice y2 n2 b2)).setCells (w.heap.size + 1) 0 [.slice y0 n0 b0, .int .i64 l1, .slice y2 n2 b2] = VF) := ⟨hVF⟩
  clear hVF
  have ZR : Hd (VF.heap[w.heap.size + 1]? = some (.cells #[.slice y0 n0 b0, .int .i64 l1, .slice y2 n2 b2] 40 (0, 0))) := ⟨by rw [← HVF.out]; exact setCells_lay ZF.out _ 0 (by simp) rfl⟩
  have BR : Hd (Below w.heap.size w VF) := ⟨by rw [← HVF.out]; exact bsetN (by omega) _ _ (bset (B3.out) _ (by omega))⟩
  have OR0 : Hd (OwRowS VF [.slice y0 n0 b0] F0 l0) := ⟨by rw [← HVF.out]; exact owRowS_ok.keep O0_3.out.1 (fun b hb => block_setN (block_set (rfl) (by have := (O0_3.out.2 b hb).1; omega)) _ _ (by have := (O0_3.out.2 b hb).1; omega))⟩
  have OR2 : Hd (OwMarkS VF [.slice y2 n2 b2] F2 l2) := ⟨by rw [← HVF.out]; exact owMarkS_ok.keep O2_3.out.1 (fun b hb => block_setN (block_set (rfl) (by have := (O2_3.out.2 b hb).1; omega)) _ _ (by have := (O2_3.out.2 b hb).1; omega))⟩
  have LO : Hd (∀ x, F0 x ∨ F2 x → w.heap.size ≤ x) := ⟨fun x hx => by
    rcases hx with hx | hx
    · have := (O0_3.out.2 x hx).1; omega
    · have := (O2_3.out.2 x hx).1; omega⟩
  clear A3 Z3 C3 B3 O0_3 O2_3 CF ZF
  go_wp2_with (first | (show wpList _ _ _ (Oper.mk _ (Op.load 40 _) _ _ _ _ :: _) _ _; refine wpList_load_to 40 _ rfl rfl (w.heap.size + 1 + 1) 0 rfl [.slice y0 n0 b0, .int .i64 l1, .slice y2 n2 b2] hrg Tryz.underlying40 rfl infoTab ?_) | (show wpList _ _ _ (Oper.mk _ (Op.store 40 _ _) _ _ _ _ :: _) _ _; refine wpList_store_to 40 _ _ rfl rfl (w.heap.size + 1) 0 #[.slice y0 n0 b0, .int .i64 l1, .slice y2 n2 b2] rfl rfl htz infoTab honz.out HVF.out ?_))
  refine bodyPost_ret (results_cell_row rfl _ _ (w.heap.size + 1) _ _ (0, 0) _ rfl ZR.out Tryz.underlying40 rfl (by kernel_rfl)) rfl ?_
  exact ⟨⟨[.slice y0 n0 b0, .int .i64 l1, .slice y2 n2 b2], rfl, fun x => F0 x ∨ F2 x, ⟨y0, n0, b0, y2, n2, b2, F0, F2, rfl, OR0.out, OR2.out, X0_2.out, fun x => Iff.rfl⟩, LO.out⟩, BR.out⟩

end Go.Proofs.YtlididoalekeoaaGreatDoor
