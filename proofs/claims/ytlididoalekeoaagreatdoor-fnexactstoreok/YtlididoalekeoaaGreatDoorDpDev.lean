/- What the laws do with a Dev. -/
import Derived.Test.YtlididoalekeoaaGreatDoorDeepA
import Derived.Test.YtlididoalekeoaaGreatDoorDevP
import Derived.Test.YtlididoalekeoaaGreatDoorDpByteSS
import Derived.Test.YtlididoalekeoaaGreatDoorDpWrS
namespace Go.Proofs.YtlididoalekeoaaGreatDoor
set_option maxRecDepth 4000
open Go.RowKit

def RdDev : Rd DevD := fun w cs a => ∃ (x0 : Option Addr) (m0 d0 : Nat) (x1 : Option Addr) (m1 d1 : Nat), cs = [.slice x0 m0 d0, .slice x1 m1 d1, .int .i64 a.fuse, .bool a.down] ∧ RdByteSS w [.slice x0 m0 d0] a.secs ∧ RdWrS w [.slice x1 m1 d1] a.cache
def OwDev : Ow DevD := fun w cs F a => ∃ (x0 : Option Addr) (m0 d0 : Nat) (x1 : Option Addr) (m1 d1 : Nat) (F0 : Fp) (F1 : Fp), cs = [.slice x0 m0 d0, .slice x1 m1 d1, .int .i64 a.fuse, .bool a.down] ∧ OwByteSS w [.slice x0 m0 d0] F0 a.secs ∧ OwWrS w [.slice x1 m1 d1] F1 a.cache ∧ (∀ x, F0 x → ¬ F1 x) ∧ (∀ x, F x ↔ F0 x ∨ F1 x)
theorem rdDev_ok : RdOk 4 RdDev := ⟨fun ⟨_, _, _, _, _, _, e, _⟩ => by rw [e]; rfl, fun ⟨x0, m0, d0, x1, m1, d1, e, r0, r1⟩ hs => ⟨x0, m0, d0, x1, m1, d1, e, rdByteSS_ok.keep r0 hs, rdWrS_ok.keep r1 hs⟩⟩
theorem owDev_ok : OwOk 4 OwDev RdDev where
  len := fun ⟨_, _, _, _, _, _, _, _, e, _⟩ => by rw [e]; rfl
  lt := fun {w _ F _} ⟨x0, m0, d0, x1, m1, d1, F0, F1, e, r0, r1, e0, hF⟩ x hx => by
    rcases (hF x).1 hx with hx | hx
    · exact owByteSS_ok.lt r0 x hx
    · exact owWrS_ok.lt r1 x hx
  keep := fun ⟨x0, m0, d0, x1, m1, d1, F0, F1, e, r0, r1, e0, hF⟩ hs => ⟨x0, m0, d0, x1, m1, d1, F0, F1, e, owByteSS_ok.keep r0 (fun b hb => hs b ((hF b).2 (.inl hb))), owWrS_ok.keep r1 (fun b hb => hs b ((hF b).2 (.inr (hb)))), e0, hF⟩
  rd := fun ⟨x0, m0, d0, x1, m1, d1, F0, F1, e, r0, r1, _, _⟩ => ⟨x0, m0, d0, x1, m1, d1, e, owByteSS_ok.rd r0, owWrS_ok.rd r1⟩
def wtDev (a : DevD) : Nat := wtByteSS a.secs + wtWrS a.cache
def ctDev (a : DevD) : Nat := ctByteSS a.secs + ctWrS a.cache + 1 + 1
def mkDev (m : Nat) (a : DevD) : DevD := (⟨mkByteSS (m) a.secs, mkWrS (m + ctByteSS a.secs) a.cache, ((m + ctByteSS a.secs + ctWrS a.cache : Nat) : Int), decide ((m + ctByteSS a.secs + ctWrS a.cache + 1) % 3 = 0)⟩ : DevD)
def cuDev (a : DevD) : Nat := ctByteSS a.secs + ctWrS a.cache
def mtDev (m : Nat) (a : DevD) : DevD := (⟨mkByteSS (m) a.secs, mkWrS (m + ctByteSS a.secs) a.cache, a.fuse, a.down⟩ : DevD)

set_option maxHeartbeats 4000000 in
theorem szDev_rd (cs : List Value) (a : DevD) (n : Int) (w : World) (h : RdDev w cs a) (hn : 0 ≤ n ∧ n ≤ 1048576) :
    Calls Tryz.prog 9 #[.agg cs.toArray, .int .i64 n] w (SzOut n (wtDev a) w) := by
  obtain ⟨l0, l1, l2, l3⟩ := a
  simp only [RdDev] at h
  obtain ⟨x0, m0, d0, x1, m1, d1, rfl, r0, r1⟩ := h
  unfold wtDev
  dsimp only
  have R0 : Hd (RdByteSS w [.slice x0 m0 d0] l0) := ⟨r0⟩
  have R1 : Hd (RdWrS w [.slice x1 m1 d1] l1) := ⟨r1⟩
  have N0 : Hd (0 ≤ n ∧ n ≤ 1048576) := ⟨hn⟩
  clear hn r0 r1
  go_enter Tryz.func9, Tryz.ntmps9
  go_wp2_with fail
  refine (szByteSS_rd x0 m0 d0 l0 n _ (rdByteSS_ok.below R0.out (below_lit w _)) N0.out).mono ?_
  rintro e w1 ⟨⟨s1, rfl, hs1, hs2, hs3⟩, hb⟩
  have K1 : Hd (w1.heap[w.heap.size]? = some (.cells #[.slice x0 m0 d0, .slice x1 m1 d1, .int .i64 l2, .bool l3] 25 (0, 0))) := ⟨(hb.block _ (by simp)).trans (heap_alloc_new w _)⟩
  have B1 : Hd (Below w.heap.size w w1) := ⟨Below.next (below_lit w _) hb⟩
  have N1 : Hd (-1 ≤ s1 ∧ s1 ≤ n ∧ n ≤ 1048576 ∧ (0 ≤ s1 → ((wtByteSS l0 : Nat) : Int) + s1 ≤ n)) := ⟨by have := N0.out; refine ⟨hs1, by omega, by omega, fun hh => ?_⟩; have := hs3 hh; omega⟩
  clear hs1 hs2 hs3 hb
  by_cases hz : s1 < 0
  · go_wp2_with fail
    go_ret
    exact ⟨⟨-1, rfl, by omega, by have := N0.out; omega, fun h => by omega⟩, B1.out⟩
  have c1 := cellsA K1.out 1 rfl
  go_wp2_with fail
  refine (szWrS_rd x1 m1 d1 l1 s1 _ (rdWrS_ok.below R1.out B1.out) ⟨by omega, by have := N1.out; omega⟩).mono ?_
  rintro e w2 ⟨⟨s2, rfl, hs1, hs2, hs3⟩, hb⟩
  have K2 : Hd (w2.heap[w.heap.size]? = some (.cells #[.slice x0 m0 d0, .slice x1 m1 d1, .int .i64 l2, .bool l3] 25 (0, 0))) := ⟨(hb.block _ (lt_of_block K1.out)).trans K1.out⟩
  have B2 : Hd (Below w.heap.size w w2) := ⟨Below.next B1.out hb⟩
  have N2 : Hd (-1 ≤ s2 ∧ s2 ≤ n ∧ n ≤ 1048576 ∧ (0 ≤ s2 → ((wtByteSS l0 + wtWrS l1 : Nat) : Int) + s2 ≤ n)) := ⟨by have := N1.out; refine ⟨hs1, by omega, by omega, fun hh => ?_⟩; have := hs3 hh; have h7 := N1.out.2.2.2 (by omega); omega⟩
  clear hs1 hs2 hs3 hb c1
  by_cases hz : s2 < 0
  · go_wp2_with fail
    go_ret
    exact ⟨⟨-1, rfl, by omega, by have := N0.out; omega, fun h => by omega⟩, B2.out⟩
  go_wp2_with fail
  go_ret
  exact ⟨⟨s2, rfl, N2.out.1, N2.out.2.1, N2.out.2.2.2⟩, B2.out⟩

set_option maxHeartbeats 4000000 in
theorem eqDev_rd (c1 c2 : List Value) (a : DevD) (w : World) (h1 : RdDev w c1 a) (h2 : RdDev w c2 a) (hw : wtDev a ≤ 1073741824) :
    Calls Tryz.prog 20 #[.agg c1.toArray, .agg c2.toArray] w fun e w' => e = .returned (.bool true) ∧ Below w.heap.size w w' := by
  obtain ⟨l0, l1, l2, l3⟩ := a
  simp only [RdDev] at h1 h2
  obtain ⟨x0, m0, d0, x1, m1, d1, rfl, r0, r1⟩ := h1
  obtain ⟨y0, n0, b0, y1, n1, b1, rfl, t0, t1⟩ := h2
  unfold wtDev at hw
  dsimp only at hw
  have R0 : Hd (RdByteSS w [.slice x0 m0 d0] l0 ∧ RdByteSS w [.slice y0 n0 b0] l0 ∧ wtByteSS l0 ≤ 1073741824) := ⟨r0, t0, by omega⟩
  have R1 : Hd (RdWrS w [.slice x1 m1 d1] l1 ∧ RdWrS w [.slice y1 n1 b1] l1 ∧ wtWrS l1 ≤ 1073741824) := ⟨r1, t1, by omega⟩
  have f2 : (l2 != l2) = false := by simp
  have f3 : (l3 != l3) = false := by simp
  clear hw r0 t0 r1 t1
  go_enter Tryz.func20, Tryz.ntmps20
  go_wp2_with fail
  generalize hA : Obj.cells #[Value.slice x0 m0 d0, .slice x1 m1 d1, .int .i64 l2, .bool l3] 36 = A
  generalize hB : Obj.cells #[Value.slice y0 n0 b0, .slice y1 n1 b1, .int .i64 l2, .bool l3] 36 = B
  have h0 : Below w.heap.size w ((w.alloc A).alloc B) := below_lit2 w A B
  refine (eqByteSS_rd x0 m0 d0 y0 n0 b0 l0 _ (rdByteSS_ok.below R0.out.1 h0) (rdByteSS_ok.below R0.out.2.1 h0) R0.out.2.2).mono ?_
  rintro e w1 ⟨rfl, hb⟩
  obtain ⟨k1, k2⟩ := laid2 w A B
  subst hA hB
  have K1 : Hd (w1.heap[w.heap.size]? = some (.cells #[Value.slice x0 m0 d0, .slice x1 m1 d1, .int .i64 l2, .bool l3] 36 (0, 0))) := ⟨(hb.block _ (by simp; omega)).trans k1⟩
  have G1 : Hd (w1.heap[w.heap.size + 1]? = some (.cells #[Value.slice y0 n0 b0, .slice y1 n1 b1, .int .i64 l2, .bool l3] 36 (0, 0))) := ⟨(hb.block _ (by simp)).trans k2⟩
  have B1 : Hd (Below w.heap.size w w1) := ⟨Below.next h0 hb⟩
  clear hb h0 k1 k2
  have u1 := cellsA K1.out 1 rfl
  have v1 := cellsA G1.out 1 rfl
  go_wp2_with fail
  refine (eqWrS_rd x1 m1 d1 y1 n1 b1 l1 _ (rdWrS_ok.below R1.out.1 B1.out) (rdWrS_ok.below R1.out.2.1 B1.out) R1.out.2.2).mono ?_
  rintro e w2 ⟨rfl, hb⟩
  have K2 : Hd (w2.heap[w.heap.size]? = some (.cells #[Value.slice x0 m0 d0, .slice x1 m1 d1, .int .i64 l2, .bool l3] 36 (0, 0))) := ⟨(hb.block _ (lt_of_block K1.out)).trans K1.out⟩
  have G2 : Hd (w2.heap[w.heap.size + 1]? = some (.cells #[Value.slice y0 n0 b0, .slice y1 n1 b1, .int .i64 l2, .bool l3] 36 (0, 0))) := ⟨(hb.block _ (lt_of_block G1.out)).trans G1.out⟩
  have B2 : Hd (Below w.heap.size w w2) := ⟨Below.next B1.out hb⟩
  clear hb u1 v1
  have u2 := cellsA K2.out 2 rfl
  have v2 := cellsA G2.out 2 rfl
  have u3 := cellsA K2.out 3 rfl
  have v3 := cellsA G2.out 3 rfl
  go_wp2_with fail
  go_ret
  exact ⟨rfl, B2.out⟩

set_option maxHeartbeats 4000000 in
theorem toDev_rd (cs : List Value) (a : DevD) (w : World) (h : RdDev w cs a) (hw : wtDev a ≤ 1073741824) :
    Calls Tryz.prog 14 #[.agg cs.toArray] w (AnsAgg OwDev a w) := by
  obtain ⟨l0, l1, l2, l3⟩ := a
  simp only [RdDev] at h
  obtain ⟨x0, m0, d0, x1, m1, d1, rfl, r0, r1⟩ := h
  unfold wtDev at hw
  dsimp only at hw
  have R0 : Hd (RdByteSS w [.slice x0 m0 d0] l0 ∧ wtByteSS l0 ≤ 1073741824) := ⟨r0, by omega⟩
  have R1 : Hd (RdWrS w [.slice x1 m1 d1] l1 ∧ wtWrS l1 ≤ 1073741824) := ⟨r1, by omega⟩
  clear hw r0 r1
  go_enter Tryz.func14, Tryz.ntmps14
  go_wp2_with fail
  generalize hA : Obj.cells #[Value.slice x0 m0 d0, .slice x1 m1 d1, .int .i64 l2, .bool l3] 25 = A
  generalize hB : Obj.cells #[Value.slice none 0 0, .slice none 0 0, .int .i64 0, .bool false] 36 = B
  have h3 : Below w.heap.size w (((w.alloc A).alloc B).alloc B) := below_lit3 w A B B
  refine (toByteSS_rd x0 m0 d0 l0 _ (rdByteSS_ok.below R0.out.1 h3) R0.out.2).mono ?_
  rintro e w1 ⟨⟨y0, n0, b0, rfl, F0, hE, hF⟩, hb⟩
  obtain ⟨k0, k1, k2⟩ := laid3 w A B B
  subst hA hB
  have A1 : Hd (w1.heap[w.heap.size]? = some (.cells #[Value.slice x0 m0 d0, .slice x1 m1 d1, .int .i64 l2, .bool l3] 25 (0, 0))) := ⟨(hb.block _ (by simp; omega)).trans k0⟩
  have Z1 : Hd (w1.heap[w.heap.size + 1]? = some (.cells #[Value.slice none 0 0, .slice none 0 0, .int .i64 0, .bool false] 36 (0, 0))) := ⟨(hb.block _ (by simp)).trans k1⟩
  have C1 : Hd (w1.heap[w.heap.size + 1 + 1]? = some (.cells #[Value.slice none 0 0, .slice none 0 0, .int .i64 0, .bool false] 36 (0, 0))) := ⟨(hb.block _ (by simp)).trans k2⟩
  simp only [World.size_alloc] at hF
  have B1 : Hd (Below w.heap.size w w1) := ⟨Below.next h3 hb⟩
  have O0_1 : Hd (OwByteSS w1 [.slice y0 n0 b0] F0 l0 ∧ ∀ x, F0 x → w.heap.size + 3 ≤ x ∧ x < w1.heap.size) := ⟨hE, fun x hx => ⟨by have := hF x hx; omega, owByteSS_ok.lt hE x hx⟩⟩
  clear hE hF hb h3 k0 k1 k2
  have c1 := cellsA A1.out 1 rfl
  have z0 := cellsA C1.out 0 rfl
  have g0 := freeA C1.out 0
  go_wp2_with fail
  have A2 : Hd ((w1.setCell ⟨w.heap.size + 1 + 1, 0, none⟩ (.slice y0 n0 b0)).heap[w.heap.size]? = some (.cells #[Value.slice x0 m0 d0, .slice x1 m1 d1, .int .i64 l2, .bool l3] 25 (0, 0))) := ⟨block_set (A1.out) (by omega)⟩
  have Z2 : Hd ((w1.setCell ⟨w.heap.size + 1 + 1, 0, none⟩ (.slice y0 n0 b0)).heap[w.heap.size + 1]? = some (.cells #[Value.slice none 0 0, .slice none 0 0, .int .i64 0, .bool false] 36 (0, 0))) := ⟨block_set (Z1.out) (by omega)⟩
  have C2 : Hd ((w1.setCell ⟨w.heap.size + 1 + 1, 0, none⟩ (.slice y0 n0 b0)).heap[w.heap.size + 1 + 1]? = some (.cells #[Value.slice y0 n0 b0, .slice none 0 0, .int .i64 0, .bool false] 36 (0, 0))) := ⟨setA (C1.out) 0 _ rfl⟩
  have B2 : Hd (Below w.heap.size w (w1.setCell ⟨w.heap.size + 1 + 1, 0, none⟩ (.slice y0 n0 b0))) := ⟨bset (B1.out) _ (by omega)⟩
  have O0_2 : Hd (OwByteSS (w1.setCell ⟨w.heap.size + 1 + 1, 0, none⟩ (.slice y0 n0 b0)) [.slice y0 n0 b0] F0 l0 ∧ ∀ x, F0 x → w.heap.size + 3 ≤ x ∧ x < (w1.setCell ⟨w.heap.size + 1 + 1, 0, none⟩ (.slice y0 n0 b0)).heap.size) := ⟨owByteSS_ok.keep O0_1.out.1 (fun b hb => block_set (rfl) (by have := (O0_1.out.2 b hb).1; omega)), fun x hx => ⟨(O0_1.out.2 x hx).1, by simp only [World.size_setCell]; exact (O0_1.out.2 x hx).2⟩⟩
  clear A1 Z1 C1 B1 O0_1 z0 g0 c1
  generalize w1.setCell ⟨w.heap.size + 1 + 1, 0, none⟩ (.slice y0 n0 b0) = w2 at *
  refine (toWrS_rd x1 m1 d1 l1 _ (rdWrS_ok.below R1.out.1 B2.out) R1.out.2).mono ?_
  rintro e w3 ⟨⟨y1, n1, b1, rfl, F1, hE, hF⟩, hb⟩
  have A3 : Hd (w3.heap[w.heap.size]? = some (.cells #[Value.slice x0 m0 d0, .slice x1 m1 d1, .int .i64 l2, .bool l3] 25 (0, 0))) := ⟨(hb.block _ (lt_of_block A2.out)).trans A2.out⟩
  have Z3 : Hd (w3.heap[w.heap.size + 1]? = some (.cells #[Value.slice none 0 0, .slice none 0 0, .int .i64 0, .bool false] 36 (0, 0))) := ⟨(hb.block _ (lt_of_block Z2.out)).trans Z2.out⟩
  have C3 : Hd (w3.heap[w.heap.size + 1 + 1]? = some (.cells #[Value.slice y0 n0 b0, .slice none 0 0, .int .i64 0, .bool false] 36 (0, 0))) := ⟨(hb.block _ (lt_of_block C2.out)).trans C2.out⟩
  have B3 : Hd (Below w.heap.size w w3) := ⟨Below.next B2.out hb⟩
  have O0_3 : Hd (OwByteSS w3 [.slice y0 n0 b0] F0 l0 ∧ ∀ x, F0 x → w.heap.size + 3 ≤ x ∧ x < w3.heap.size) := ⟨owByteSS_ok.below O0_2.out.1 hb, fun x hx => ⟨(O0_2.out.2 x hx).1, by have := (O0_2.out.2 x hx).2; have := hb.size; omega⟩⟩
  have O1_3 : Hd (OwWrS w3 [.slice y1 n1 b1] F1 l1 ∧ ∀ x, F1 x → w.heap.size + 3 ≤ x ∧ x < w3.heap.size) := ⟨hE, fun x hx => ⟨by have := hF x hx; have := lt_of_block C2.out; omega, owWrS_ok.lt hE x hx⟩⟩
  have X0_1 : Hd (∀ x, F0 x → ¬ F1 x) := ⟨fun x hx hy => by have := (O0_2.out.2 x hx).2; have := hF x hy; omega⟩
  clear hE hF hb A2 Z2 C2 B2 O0_2
  have c2 := cellsA A3.out 2 rfl
  have c3 := cellsA A3.out 3 rfl
  have z1 := cellsA C3.out 1 rfl
  have g1 := freeA C3.out 1
  have z2 := cellsA C3.out 2 rfl
  have g2 := freeA C3.out 2
  have z3 := cellsA C3.out 3 rfl
  have g3 := freeA C3.out 3
  have z0 := cellsA C3.out 0 rfl
  have p0 := cellsA Z3.out 0 rfl
  have s0 := freeA Z3.out 0
  have p1 := cellsA Z3.out 1 rfl
  have s1 := freeA Z3.out 1
  have p2 := cellsA Z3.out 2 rfl
  have s2 := freeA Z3.out 2
  have p3 := cellsA Z3.out 3 rfl
  have s3 := freeA Z3.out 3
  go_wp2_with fail
  refine bodyPost_ret (results_cell_row rfl _ _ (w.heap.size + 1) _ _ (0, 0) _ rfl (setA (setA (setA (setA (block_set (block_set (block_set (Z3.out) (by omega)) (by omega)) (by omega)) 0 _ rfl) 1 _ rfl) 2 _ rfl) 3 _ rfl) Tryz.underlying36 rfl (by kernel_rfl)) rfl ?_
  refine ⟨⟨[.slice y0 n0 b0, .slice y1 n1 b1, .int .i64 l2, .bool l3], rfl, fun x => F0 x ∨ F1 x, ⟨y0, n0, b0, y1, n1, b1, F0, F1, rfl, owByteSS_ok.keep O0_3.out.1 (fun b hb => block_set (block_set (block_set (block_set (block_set (block_set (block_set (rfl) (by have := (O0_3.out.2 b hb).1; omega)) (by have := (O0_3.out.2 b hb).1; omega)) (by have := (O0_3.out.2 b hb).1; omega)) (by have := (O0_3.out.2 b hb).1; omega)) (by have := (O0_3.out.2 b hb).1; omega)) (by have := (O0_3.out.2 b hb).1; omega)) (by have := (O0_3.out.2 b hb).1; omega)), owWrS_ok.keep O1_3.out.1 (fun b hb => block_set (block_set (block_set (block_set (block_set (block_set (block_set (rfl) (by have := (O1_3.out.2 b hb).1; omega)) (by have := (O1_3.out.2 b hb).1; omega)) (by have := (O1_3.out.2 b hb).1; omega)) (by have := (O1_3.out.2 b hb).1; omega)) (by have := (O1_3.out.2 b hb).1; omega)) (by have := (O1_3.out.2 b hb).1; omega)) (by have := (O1_3.out.2 b hb).1; omega)), X0_1.out, fun x => Iff.rfl⟩, fun x hx => ?_⟩, bset (bset (bset (bset (bset (bset (bset (B3.out) _ (by omega)) _ (by omega)) _ (by omega)) _ (by omega)) _ (by omega)) _ (by omega)) _ (by omega)⟩
  rcases hx with hx | hx
  · have := (O0_3.out.2 x hx).1; omega
  · have := (O1_3.out.2 x hx).1; omega

end Go.Proofs.YtlididoalekeoaaGreatDoor
