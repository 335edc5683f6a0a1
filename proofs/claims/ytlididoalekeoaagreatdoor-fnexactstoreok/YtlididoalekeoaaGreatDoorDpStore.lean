/- What the laws do with a Store. -/
import Derived.Test.YtlididoalekeoaaGreatDoorDeepA
import Derived.Test.YtlididoalekeoaaGreatDoorDevRc
import Derived.Test.YtlididoalekeoaaGreatDoorDpTab
import Derived.Test.YtlididoalekeoaaGreatDoorStoreDat
namespace Go.Proofs.YtlididoalekeoaaGreatDoor
set_option maxRecDepth 4000
open Go.RowKit

def RdStore : Rd StoreD := fun w cs a => ∃ (x0 : Option Addr) (m0 d0 : Nat) (x1 : Option Addr) (m1 d1 : Nat) (x4 : Option Addr) (m4 d4 : Nat) (x6 : Option Addr) (m6 d6 : Nat), cs = [.slice x0 m0 d0, .slice x1 m1 d1, .int .i64 a.d.fuse, .bool a.d.down, .slice x4 m4 d4, .int .i64 a.t.phase, .slice x6 m6 d6, .int .i64 a.gen, .int .i64 a.place] ∧ RdDev w [.slice x0 m0 d0, .slice x1 m1 d1, .int .i64 a.d.fuse, .bool a.d.down] (a.d) ∧ RdTab w [.slice x4 m4 d4, .int .i64 a.t.phase, .slice x6 m6 d6] (a.t)
def RcStore : Rd StoreD := fun w cs a => ∃ (x0 : Option Addr) (m0 d0 : Nat) (x1 : Option Addr) (m1 d1 : Nat) (x4 : Option Addr) (m4 d4 : Nat) (x6 : Option Addr) (m6 d6 : Nat), cs = [.slice x0 m0 d0, .slice x1 m1 d1, .int .i64 a.d.fuse, .bool a.d.down, .slice x4 m4 d4, .int .i64 a.t.phase, .slice x6 m6 d6, .int .i64 a.gen, .int .i64 a.place] ∧ RcDev w [.slice x0 m0 d0, .slice x1 m1 d1, .int .i64 a.d.fuse, .bool a.d.down] (a.d) ∧ RcTab w [.slice x4 m4 d4, .int .i64 a.t.phase, .slice x6 m6 d6] (a.t)
def OwStore : Ow StoreD := fun w cs F a => ∃ (x0 : Option Addr) (m0 d0 : Nat) (x1 : Option Addr) (m1 d1 : Nat) (x4 : Option Addr) (m4 d4 : Nat) (x6 : Option Addr) (m6 d6 : Nat) (F0 : Fp) (F4 : Fp), cs = [.slice x0 m0 d0, .slice x1 m1 d1, .int .i64 a.d.fuse, .bool a.d.down, .slice x4 m4 d4, .int .i64 a.t.phase, .slice x6 m6 d6, .int .i64 a.gen, .int .i64 a.place] ∧ OwDev w [.slice x0 m0 d0, .slice x1 m1 d1, .int .i64 a.d.fuse, .bool a.d.down] F0 (a.d) ∧ OwTab w [.slice x4 m4 d4, .int .i64 a.t.phase, .slice x6 m6 d6] F4 (a.t) ∧ (∀ x, F0 x → ¬ F4 x) ∧ (∀ x, F x ↔ F0 x ∨ F4 x)
theorem rdStore_ok : RdOk 9 RdStore := ⟨fun ⟨_, _, _, _, _, _, _, _, _, _, _, _, e, _⟩ => by rw [e]; rfl, fun ⟨x0, m0, d0, x1, m1, d1, x4, m4, d4, x6, m6, d6, e, r0, r4⟩ hs => ⟨x0, m0, d0, x1, m1, d1, x4, m4, d4, x6, m6, d6, e, rdDev_ok.keep r0 hs, rdTab_ok.keep r4 hs⟩⟩
theorem rcStore_ok : RdOk 9 RcStore := ⟨fun ⟨_, _, _, _, _, _, _, _, _, _, _, _, e, _⟩ => by rw [e]; rfl, fun ⟨x0, m0, d0, x1, m1, d1, x4, m4, d4, x6, m6, d6, e, r0, r4⟩ hs => ⟨x0, m0, d0, x1, m1, d1, x4, m4, d4, x6, m6, d6, e, rcDev_ok.keep r0 hs, rcTab_ok.keep r4 hs⟩⟩
theorem rcStore_w {w : World} {cs : List Value} {a : StoreD} (h : RcStore w cs a) : RdStore w cs a := by
  obtain ⟨x0, m0, d0, x1, m1, d1, x4, m4, d4, x6, m6, d6, e, r0, r4⟩ := h
  exact ⟨x0, m0, d0, x1, m1, d1, x4, m4, d4, x6, m6, d6, e, rcDev_w r0, rcTab_w r4⟩
theorem owStore_ok : OwOk 9 OwStore RcStore where
  len := fun ⟨_, _, _, _, _, _, _, _, _, _, _, _, _, _, e, _⟩ => by rw [e]; rfl
  lt := fun {w _ F _} ⟨x0, m0, d0, x1, m1, d1, x4, m4, d4, x6, m6, d6, F0, F4, e, r0, r4, _, hF⟩ x hx => by
    rcases (hF x).1 hx with hx | hx
    · exact owDev_ok.lt r0 x hx
    · exact owTab_ok.lt r4 x hx
  keep := fun ⟨x0, m0, d0, x1, m1, d1, x4, m4, d4, x6, m6, d6, F0, F4, e, r0, r4, e0, hF⟩ hs => ⟨x0, m0, d0, x1, m1, d1, x4, m4, d4, x6, m6, d6, F0, F4, e, owDev_ok.keep r0 (fun b hb => hs b ((hF b).2 (.inl hb))), owTab_ok.keep r4 (fun b hb => hs b ((hF b).2 (.inr (hb)))), e0, hF⟩
  rd := fun ⟨x0, m0, d0, x1, m1, d1, x4, m4, d4, x6, m6, d6, F0, F4, e, r0, r4, _, _⟩ => ⟨x0, m0, d0, x1, m1, d1, x4, m4, d4, x6, m6, d6, e, owDev_ok.rd r0, owTab_ok.rd r4⟩
theorem infoStore : (Tryz.prog.info? 42).map (·.size) = some 9 := by kernel_rfl
def wtStore (a : StoreD) : Nat := wtDev (a.d) + wtTab (a.t)

set_option maxHeartbeats 4000000 in
theorem szStore_rd (cs : List Value) (a : StoreD) (n : Int) (w : World) (h : RdStore w cs a) (hn : 0 ≤ n ∧ n ≤ 1048576) :
    Calls Tryz.prog 4 #[.agg cs.toArray, .int .i64 n] w (SzOut n (wtStore a) w) := by
  obtain ⟨⟨l0, l1, l2, l3⟩, ⟨l4, l5, l6⟩, l7, l8⟩ := a
  simp only [RdStore] at h
  obtain ⟨x0, m0, d0, x1, m1, d1, x4, m4, d4, x6, m6, d6, rfl, r0, r4⟩ := h
  unfold wtStore
  dsimp only
  have R0 : Hd (RdDev w [.slice x0 m0 d0, .slice x1 m1 d1, .int .i64 l2, .bool l3] (⟨l0, l1, l2, l3⟩ : DevD)) := ⟨r0⟩
  have R4 : Hd (RdTab w [.slice x4 m4 d4, .int .i64 l5, .slice x6 m6 d6] (⟨l4, l5, l6⟩ : TabD)) := ⟨r4⟩
  have N0 : Hd (0 ≤ n ∧ n ≤ n ∧ n ≤ 1048576 ∧ ((0 : Nat) : Int) + n ≤ n) := ⟨by omega⟩
  clear hn r0 r4
  go_enter Tryz.func4, Tryz.ntmps4
  go_wp2_with fail
  refine (szDev_rd _ (⟨l0, l1, l2, l3⟩ : DevD) (n) _ (rdDev_ok.below R0.out (below_lit w _)) ⟨by have := N0.out; omega, by have := N0.out; omega⟩).mono ?_
  rintro e w1 ⟨⟨s1, rfl, hs1, hs2, hs3⟩, hb⟩
  have K1 : Hd (w1.heap[w.heap.size]? = some (.cells #[.slice x0 m0 d0, .slice x1 m1 d1, .int .i64 l2, .bool l3, .slice x4 m4 d4, .int .i64 l5, .slice x6 m6 d6, .int .i64 l7, .int .i64 l8] 31 (0, 0))) := ⟨(hb.block _ (by simp)).trans (heap_alloc_new w _)⟩
  have B1 : Hd (Below w.heap.size w w1) := ⟨Below.next (below_lit w _) hb⟩
  have M1 : Hd (s1 ≤ n ∧ n ≤ 1048576 ∧ (0 ≤ s1 → ((wtDev (⟨l0, l1, l2, l3⟩ : DevD) : Nat) : Int) + s1 ≤ n)) := ⟨by have := N0.out; refine ⟨by omega, by omega, fun hh => ?_⟩; have := hs3 hh; omega⟩
  clear hs1 hs2 hs3 hb
  by_cases hz1 : s1 < 0
  · go_wp2_with fail
    go_ret
    exact ⟨⟨-1, rfl, by omega, by have := N0.out; omega, fun h => by omega⟩, B1.out⟩
  have N1 : Hd (0 ≤ s1 ∧ s1 ≤ n ∧ n ≤ 1048576 ∧ ((wtDev (⟨l0, l1, l2, l3⟩ : DevD) : Nat) : Int) + s1 ≤ n) := ⟨by have := M1.out; omega⟩
  have c4 := cellsA K1.out 4 rfl
  have c5 := cellsA K1.out 5 rfl
  have c6 := cellsA K1.out 6 rfl
  go_wp2_with fail
  clear hz1
  clear c4 c5 c6
  refine (szTab_rd _ (⟨l4, l5, l6⟩ : TabD) (s1) _ (rdTab_ok.below R4.out B1.out) ⟨by have := N1.out; omega, by have := N1.out; omega⟩).mono ?_
  rintro e w2 ⟨⟨s2, rfl, hs1, hs2, hs3⟩, hb⟩
  have K2 : Hd (w2.heap[w.heap.size]? = some (.cells #[.slice x0 m0 d0, .slice x1 m1 d1, .int .i64 l2, .bool l3, .slice x4 m4 d4, .int .i64 l5, .slice x6 m6 d6, .int .i64 l7, .int .i64 l8] 31 (0, 0))) := ⟨(hb.block _ (lt_of_block K1.out)).trans K1.out⟩
  have B2 : Hd (Below w.heap.size w w2) := ⟨Below.next B1.out hb⟩
  have M2 : Hd (s2 ≤ n ∧ n ≤ 1048576 ∧ (0 ≤ s2 → ((wtDev (⟨l0, l1, l2, l3⟩ : DevD) + wtTab (⟨l4, l5, l6⟩ : TabD) : Nat) : Int) + s2 ≤ n)) := ⟨by have := N1.out; refine ⟨by omega, by omega, fun hh => ?_⟩; have := hs3 hh; omega⟩
  clear hs1 hs2 hs3 hb
  by_cases hz2 : s2 < 0
  · go_wp2_with fail
    go_ret
    exact ⟨⟨-1, rfl, by omega, by have := N0.out; omega, fun h => by omega⟩, B2.out⟩
  have N2 : Hd (0 ≤ s2 ∧ s2 ≤ n ∧ n ≤ 1048576 ∧ ((wtDev (⟨l0, l1, l2, l3⟩ : DevD) + wtTab (⟨l4, l5, l6⟩ : TabD) : Nat) : Int) + s2 ≤ n) := ⟨by have := M2.out; omega⟩
  go_wp2_with fail
  go_ret
  exact ⟨⟨s2, rfl, by have := N2.out; omega, by have := N2.out; omega, fun _ => N2.out.2.2.2⟩, B2.out⟩

set_option maxHeartbeats 4000000 in
theorem eqStore_rd (c1 c2 : List Value) (a : StoreD) (w : World) (h1 : RdStore w c1 a) (h2 : RdStore w c2 a) (hw : wtStore a ≤ 1073741824) :
    Calls Tryz.prog 8 #[.agg c1.toArray, .agg c2.toArray] w fun e w' => e = .returned (.bool true) ∧ Below w.heap.size w w' := by
  obtain ⟨⟨l0, l1, l2, l3⟩, ⟨l4, l5, l6⟩, l7, l8⟩ := a
  simp only [RdStore] at h1 h2
  obtain ⟨x0, m0, d0, x1, m1, d1, x4, m4, d4, x6, m6, d6, rfl, r0, r4⟩ := h1
  obtain ⟨y0, n0, b0, y1, n1, b1, y4, n4, b4, y6, n6, b6, rfl, t0, t4⟩ := h2
  unfold wtStore at hw
  dsimp only at hw
  have R0 : Hd (RdDev w [.slice x0 m0 d0, .slice x1 m1 d1, .int .i64 l2, .bool l3] (⟨l0, l1, l2, l3⟩ : DevD) ∧ RdDev w [.slice y0 n0 b0, .slice y1 n1 b1, .int .i64 l2, .bool l3] (⟨l0, l1, l2, l3⟩ : DevD) ∧ wtDev (⟨l0, l1, l2, l3⟩ : DevD) ≤ 1073741824) := ⟨r0, t0, by omega⟩
  have R4 : Hd (RdTab w [.slice x4 m4 d4, .int .i64 l5, .slice x6 m6 d6] (⟨l4, l5, l6⟩ : TabD) ∧ RdTab w [.slice y4 n4 b4, .int .i64 l5, .slice y6 n6 b6] (⟨l4, l5, l6⟩ : TabD) ∧ wtTab (⟨l4, l5, l6⟩ : TabD) ≤ 1073741824) := ⟨r4, t4, by omega⟩
  have f7 : (l7 != l7) = false := by simp
  have f8 : (l8 != l8) = false := by simp
  clear hw r0 t0 r4 t4
  go_enter Tryz.func8, Tryz.ntmps8
  go_wp2_with fail
  generalize hA : Obj.cells #[Value.slice x0 m0 d0, .slice x1 m1 d1, .int .i64 l2, .bool l3, .slice x4 m4 d4, .int .i64 l5, .slice x6 m6 d6, .int .i64 l7, .int .i64 l8] 42 = A
  generalize hB : Obj.cells #[Value.slice y0 n0 b0, .slice y1 n1 b1, .int .i64 l2, .bool l3, .slice y4 n4 b4, .int .i64 l5, .slice y6 n6 b6, .int .i64 l7, .int .i64 l8] 42 = B
  have h0 : Below w.heap.size w ((w.alloc A).alloc B) := below_lit2 w A B
  refine (eqDev_rd _ _ (⟨l0, l1, l2, l3⟩ : DevD) _ (rdDev_ok.below R0.out.1 h0) (rdDev_ok.below R0.out.2.1 h0) R0.out.2.2).mono ?_
  rintro e w1 ⟨rfl, hb⟩
  obtain ⟨k1, k2⟩ := laid2 w A B
  subst hA hB
  have K1 : Hd (w1.heap[w.heap.size]? = some (.cells #[Value.slice x0 m0 d0, .slice x1 m1 d1, .int .i64 l2, .bool l3, .slice x4 m4 d4, .int .i64 l5, .slice x6 m6 d6, .int .i64 l7, .int .i64 l8] 42 (0, 0))) := ⟨(hb.block _ (by simp; omega)).trans k1⟩
  have G1 : Hd (w1.heap[w.heap.size + 1]? = some (.cells #[Value.slice y0 n0 b0, .slice y1 n1 b1, .int .i64 l2, .bool l3, .slice y4 n4 b4, .int .i64 l5, .slice y6 n6 b6, .int .i64 l7, .int .i64 l8] 42 (0, 0))) := ⟨(hb.block _ (by simp)).trans k2⟩
  have B1 : Hd (Below w.heap.size w w1) := ⟨Below.next h0 hb⟩
  clear hb h0 k1 k2
  have u4 := cellsA K1.out 4 rfl
  have v4 := cellsA G1.out 4 rfl
  have u5 := cellsA K1.out 5 rfl
  have v5 := cellsA G1.out 5 rfl
  have u6 := cellsA K1.out 6 rfl
  have v6 := cellsA G1.out 6 rfl
  go_wp2_with fail
  clear u4 v4 u5 v5 u6 v6
  refine (eqTab_rd _ _ (⟨l4, l5, l6⟩ : TabD) _ (rdTab_ok.below R4.out.1 B1.out) (rdTab_ok.below R4.out.2.1 B1.out) R4.out.2.2).mono ?_
  rintro e w2 ⟨rfl, hb⟩
  have K2 : Hd (w2.heap[w.heap.size]? = some (.cells #[Value.slice x0 m0 d0, .slice x1 m1 d1, .int .i64 l2, .bool l3, .slice x4 m4 d4, .int .i64 l5, .slice x6 m6 d6, .int .i64 l7, .int .i64 l8] 42 (0, 0))) := ⟨(hb.block _ (lt_of_block K1.out)).trans K1.out⟩
  have G2 : Hd (w2.heap[w.heap.size + 1]? = some (.cells #[Value.slice y0 n0 b0, .slice y1 n1 b1, .int .i64 l2, .bool l3, .slice y4 n4 b4, .int .i64 l5, .slice y6 n6 b6, .int .i64 l7, .int .i64 l8] 42 (0, 0))) := ⟨(hb.block _ (lt_of_block G1.out)).trans G1.out⟩
  have B2 : Hd (Below w.heap.size w w2) := ⟨Below.next B1.out hb⟩
  clear hb
  have u7 := cellsA K2.out 7 rfl
  have v7 := cellsA G2.out 7 rfl
  have u8 := cellsA K2.out 8 rfl
  have v8 := cellsA G2.out 8 rfl
  go_wp2_with fail
  go_ret
  exact ⟨rfl, B2.out⟩

end Go.Proofs.YtlididoalekeoaaGreatDoor
