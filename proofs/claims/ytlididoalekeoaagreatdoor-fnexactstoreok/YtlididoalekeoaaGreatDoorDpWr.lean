/- What the laws do with a Wr. -/
import Derived.Test.YtlididoalekeoaaGreatDoorDeepA
import Derived.Test.YtlididoalekeoaaGreatDoorDevP
namespace Go.Proofs.YtlididoalekeoaaGreatDoor
set_option maxRecDepth 4000
open Go.RowKit

def RdWr : Rd WrD := fun w cs a => ∃ (x1 : Option Addr) (m1 d1 : Nat), cs = [.int .i64 a.n, .slice x1 m1 d1] ∧ RdB w [.slice x1 m1 d1] a.b
def OwWr : Ow WrD := fun w cs F a => ∃ (x1 : Option Addr) (m1 d1 : Nat) (F1 : Fp), cs = [.int .i64 a.n, .slice x1 m1 d1] ∧ OwB w [.slice x1 m1 d1] F1 a.b ∧ (∀ x, F x ↔ F1 x)
theorem rdWr_ok : RdOk 2 RdWr := ⟨fun ⟨_, _, _, e, _⟩ => by rw [e]; rfl, fun ⟨x1, m1, d1, e, r1⟩ hs => ⟨x1, m1, d1, e, rdB_ok.keep r1 hs⟩⟩
theorem owWr_ok : OwOk 2 OwWr RdWr where
  len := fun ⟨_, _, _, _, e, _⟩ => by rw [e]; rfl
  lt := fun {w _ F _} ⟨x1, m1, d1, F1, e, r1, hF⟩ x hx => by
    exact owB_ok.lt r1 x ((hF x).1 hx)
  keep := fun ⟨x1, m1, d1, F1, e, r1, hF⟩ hs => ⟨x1, m1, d1, F1, e, owB_ok.keep r1 (fun b hb => hs b ((hF b).2 (hb))), hF⟩
  rd := fun ⟨x1, m1, d1, F1, e, r1, _⟩ => ⟨x1, m1, d1, e, owB_ok.rd r1⟩
def wtWr (a : WrD) : Nat := wtB a.b
def ctWr (a : WrD) : Nat := 1 + ctB a.b
def mkWr (m : Nat) (a : WrD) : WrD := (⟨((m : Nat) : Int), mkB (m + 1) a.b⟩ : WrD)
def cuWr (a : WrD) : Nat := ctB a.b
def mtWr (m : Nat) (a : WrD) : WrD := (⟨a.n, mkB (m) a.b⟩ : WrD)

set_option maxHeartbeats 4000000 in
theorem szWr_rd (cs : List Value) (a : WrD) (n : Int) (w : World) (h : RdWr w cs a) (hn : 0 ≤ n ∧ n ≤ 1048576) :
    Calls Tryz.prog 46 #[.agg cs.toArray, .int .i64 n] w (SzOut n (wtWr a) w) := by
  obtain ⟨l0, l1⟩ := a
  simp only [RdWr] at h
  obtain ⟨x1, m1, d1, rfl, r1⟩ := h
  unfold wtWr
  dsimp only
  have R1 : Hd (RdB w [.slice x1 m1 d1] l1) := ⟨r1⟩
  have N0 : Hd (0 ≤ n ∧ n ≤ 1048576) := ⟨hn⟩
  clear hn r1
  go_enter Tryz.func46, Tryz.ntmps46
  go_wp2_with fail
  refine (szByteS_rd x1 m1 d1 l1 n _ (rdB_ok.below R1.out (below_lit w _)) N0.out).mono ?_
  rintro e w1 ⟨⟨s1, rfl, hs1, hs2, hs3⟩, hb⟩
  have K1 : Hd (w1.heap[w.heap.size]? = some (.cells #[.int .i64 l0, .slice x1 m1 d1] 92 (0, 0))) := ⟨(hb.block _ (by simp)).trans (heap_alloc_new w _)⟩
  have B1 : Hd (Below w.heap.size w w1) := ⟨Below.next (below_lit w _) hb⟩
  have N1 : Hd (-1 ≤ s1 ∧ s1 ≤ n ∧ n ≤ 1048576 ∧ (0 ≤ s1 → ((wtB l1 : Nat) : Int) + s1 ≤ n)) := ⟨by have := N0.out; refine ⟨hs1, by omega, by omega, fun hh => ?_⟩; have := hs3 hh; omega⟩
  clear hs1 hs2 hs3 hb
  by_cases hz : s1 < 0
  · go_wp2_with fail
    go_ret
    exact ⟨⟨-1, rfl, by omega, by have := N0.out; omega, fun h => by omega⟩, B1.out⟩
  go_wp2_with fail
  go_ret
  exact ⟨⟨s1, rfl, N1.out.1, N1.out.2.1, N1.out.2.2.2⟩, B1.out⟩

set_option maxHeartbeats 4000000 in
theorem eqWr_rd (c1 c2 : List Value) (a : WrD) (w : World) (h1 : RdWr w c1 a) (h2 : RdWr w c2 a) (hw : wtWr a ≤ 1073741824) :
    Calls Tryz.prog 67 #[.agg c1.toArray, .agg c2.toArray] w fun e w' => e = .returned (.bool true) ∧ Below w.heap.size w w' := by
  obtain ⟨l0, l1⟩ := a
  simp only [RdWr] at h1 h2
  obtain ⟨x1, m1, d1, rfl, r1⟩ := h1
  obtain ⟨y1, n1, b1, rfl, t1⟩ := h2
  unfold wtWr at hw
  dsimp only at hw
  have R1 : Hd (RdB w [.slice x1 m1 d1] l1 ∧ RdB w [.slice y1 n1 b1] l1 ∧ wtB l1 ≤ 1073741824) := ⟨r1, t1, by omega⟩
  have f0 : (l0 != l0) = false := by simp
  clear hw r1 t1
  go_enter Tryz.func67, Tryz.ntmps67
  go_wp2_with fail
  generalize hA : Obj.cells #[Value.int .i64 l0, .slice x1 m1 d1] 62 = A
  generalize hB : Obj.cells #[Value.int .i64 l0, .slice y1 n1 b1] 62 = B
  have h0 : Below w.heap.size w ((w.alloc A).alloc B) := below_lit2 w A B
  refine (eqByteS_rd x1 m1 d1 y1 n1 b1 l1 _ (rdB_ok.below R1.out.1 h0) (rdB_ok.below R1.out.2.1 h0) R1.out.2.2).mono ?_
  rintro e w1 ⟨rfl, hb⟩
  obtain ⟨k1, k2⟩ := laid2 w A B
  subst hA hB
  have K1 : Hd (w1.heap[w.heap.size]? = some (.cells #[Value.int .i64 l0, .slice x1 m1 d1] 62 (0, 0))) := ⟨(hb.block _ (by simp; omega)).trans k1⟩
  have G1 : Hd (w1.heap[w.heap.size + 1]? = some (.cells #[Value.int .i64 l0, .slice y1 n1 b1] 62 (0, 0))) := ⟨(hb.block _ (by simp)).trans k2⟩
  have B1 : Hd (Below w.heap.size w w1) := ⟨Below.next h0 hb⟩
  clear hb h0 k1 k2
  go_wp2_with fail
  go_ret
  exact ⟨rfl, B1.out⟩

set_option maxHeartbeats 4000000 in
theorem toWr_rd (cs : List Value) (a : WrD) (w : World) (h : RdWr w cs a) (hw : wtWr a ≤ 1073741824) :
    Calls Tryz.prog 57 #[.agg cs.toArray] w (AnsAgg OwWr a w) := by
  obtain ⟨l0, l1⟩ := a
  simp only [RdWr] at h
  obtain ⟨x1, m1, d1, rfl, r1⟩ := h
  unfold wtWr at hw
  dsimp only at hw
  have R1 : Hd (RdB w [.slice x1 m1 d1] l1 ∧ wtB l1 ≤ 1073741824) := ⟨r1, by omega⟩
  clear hw r1
  go_enter Tryz.func57, Tryz.ntmps57
  go_wp2_with fail
  generalize hA : Obj.cells #[Value.int .i64 l0, .slice x1 m1 d1] 92 = A
  generalize hB : Obj.cells #[Value.int .i64 0, .slice none 0 0] 62 = B
  generalize hC : Obj.cells #[Value.int .i64 l0, .slice none 0 0] 62 = C
  have h3 : Below w.heap.size w (((w.alloc A).alloc B).alloc C) := below_lit3 w A B C
  refine (toByteS_rd x1 m1 d1 l1 _ (rdB_ok.below R1.out.1 h3) R1.out.2).mono ?_
  rintro e w1 ⟨⟨y1, n1, b1, rfl, F1, hE, hF⟩, hb⟩
  obtain ⟨k0, k1, k2⟩ := laid3 w A B C
  subst hA hB hC
  have A1 : Hd (w1.heap[w.heap.size]? = some (.cells #[Value.int .i64 l0, .slice x1 m1 d1] 92 (0, 0))) := ⟨(hb.block _ (by simp; omega)).trans k0⟩
  have Z1 : Hd (w1.heap[w.heap.size + 1]? = some (.cells #[Value.int .i64 0, .slice none 0 0] 62 (0, 0))) := ⟨(hb.block _ (by simp)).trans k1⟩
  have C1 : Hd (w1.heap[w.heap.size + 1 + 1]? = some (.cells #[Value.int .i64 l0, .slice none 0 0] 62 (0, 0))) := ⟨(hb.block _ (by simp)).trans k2⟩
  simp only [World.size_alloc] at hF
  have B1 : Hd (Below w.heap.size w w1) := ⟨Below.next h3 hb⟩
  have O1_1 : Hd (OwB w1 [.slice y1 n1 b1] F1 l1 ∧ ∀ x, F1 x → w.heap.size + 3 ≤ x ∧ x < w1.heap.size) := ⟨hE, fun x hx => ⟨by have := hF x hx; omega, owB_ok.lt hE x hx⟩⟩
  clear hE hF hb h3 k0 k1 k2
  have z1 := cellsA C1.out 1 rfl
  have g1 := freeA C1.out 1
  have z0 := cellsA C1.out 0 rfl
  have p0 := cellsA Z1.out 0 rfl
  have s0 := freeA Z1.out 0
  have p1 := cellsA Z1.out 1 rfl
  have s1 := freeA Z1.out 1
  go_wp2_with fail
  refine bodyPost_ret (results_cell_row rfl _ _ (w.heap.size + 1) _ _ (0, 0) _ rfl (setA (setA (block_set (Z1.out) (by omega)) 0 _ rfl) 1 _ rfl) Tryz.underlying62 rfl (by kernel_rfl)) rfl ?_
  refine ⟨⟨[.int .i64 l0, .slice y1 n1 b1], rfl, fun x => F1 x, ⟨y1, n1, b1, F1, rfl, owB_ok.keep O1_1.out.1 (fun b hb => block_set (block_set (block_set (rfl) (by have := (O1_1.out.2 b hb).1; omega)) (by have := (O1_1.out.2 b hb).1; omega)) (by have := (O1_1.out.2 b hb).1; omega)), fun x => Iff.rfl⟩, fun x hx => ?_⟩, bset (bset (bset (B1.out) _ (by omega)) _ (by omega)) _ (by omega)⟩
  have := (O1_1.out.2 x hx).1
  omega

end Go.Proofs.YtlididoalekeoaaGreatDoor
