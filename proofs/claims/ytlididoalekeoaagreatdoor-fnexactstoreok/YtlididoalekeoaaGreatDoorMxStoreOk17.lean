/- Parts of the proof, one behind the other. -/
import Derived.Test.YtlididoalekeoaaGreatDoorMxStoreOk11
import Derived.Test.YtlididoalekeoaaGreatDoorMxStoreOk16
import Derived.Test.YtlididoalekeoaaGreatDoorMxStoreOk14
import Derived.Test.YtlididoalekeoaaGreatDoorMxStoreOk15
import Derived.Test.YtlididoalekeoaaGreatDoorMxStoreOk13
import Derived.Test.YtlididoalekeoaaGreatDoorMxStoreOk1
/- Parts of the proof, one behind the other. -/
/- What the laws do with a Store. -/
namespace Go.Proofs.YtlididoalekeoaaGreatDoor
set_option maxRecDepth 4000
open Go.RowKit

def RdStore : Rd StoreD := fun w cs a => ∃ (x0 : Option Addr) (m0 d0 : Nat) (x1 : Option Addr) (m1 d1 : Nat) (x4 : Option Addr) (m4 d4 : Nat) (x6 : Option Addr) (m6 d6 : Nat), cs = [.slice x0 m0 d0, .slice x1 m1 d1, .int .i64 a.d.fuse, .bool a.d.down, .slice x4 m4 d4, .int .i64 a.t.phase, .slice x6 m6 d6, .int .i64 a.gen, .int .i64 a.place] ∧ RdDev w [.slice x0 m0 d0, .slice x1 m1 d1, .int .i64 a.d.fuse, .bool a.d.down] (a.d) ∧ RdTab w [.slice x4 m4 d4, .int .i64 a.t.phase, .slice x6 m6 d6] (a.t)
def RcStore : Rd StoreD := fun w cs a => ∃ (x0 : Option Addr) (m0 d0 : Nat) (x1 : Option Addr) (m1 d1 : Nat) (x4 : Option Addr) (m4 d4 : Nat) (x6 : Option Addr) (m6 d6 : Nat), cs = [.slice x0 m0 d0, .slice x1 m1 d1, .int .i64 a.d.fuse, .bool a.d.down, .slice x4 m4 d4, .int .i64 a.t.phase, .slice x6 m6 d6, .int .i64 a.gen, .int .i64 a.place] ∧ RcDev w [.slice x0 m0 d0, .slice x1 m1 d1, .int .i64 a.d.fuse, .bool a.d.down] (a.d) ∧ RcTab w [.slice x4 m4 d4, .int .i64 a.t.phase, .slice x6 m6 d6] (a.t)
def OwStore : Ow StoreD := fun w cs F a => ∃ (x0 : Option Addr) (m0 d0 : Nat) (x1 : Option Addr) (m1 d1 : Nat) (x4 : Option Addr) (m4 d4 : Nat) (x6 : Option Addr) (m6 d6 : Nat) (F0 : Fp) (F4 : Fp), cs = [.slice x0 m0 d0, .slice x1 m1 d1, .int .i64 a.d.fuse, .bool a.d.down, .slice x4 m4 d4, .int .i64 a.t.phase, .slice x6 m6 d6, .int .i64 a.gen, .int .i64 a.place] ∧ OwDev w [.slice x0 m0 d0, .slice x1 m1 d1, .int .i64 a.d.fuse, .bool a.d.down] F0 (a.d) ∧ OwTab w [.slice x4 m4 d4, .int .i64 a.t.phase, .slice x6 m6 d6] F4 (a.t) ∧ (∀ x, F0 x → ¬ F4 x) ∧ (∀ x, F x ↔ F0 x ∨ F4 x)
theorem rdStore_ok : RdOk 9 RdStore := ⟨fun ⟨_, _, _, _, _, _, _, _, _, _, _, _, e, _⟩ => by rw [e]; rfl, fun ⟨x0, m0, d0, x1, m1, d1, x4, m4, d4, x6, m6, d6, e, r0, r4⟩ hs => ⟨x0, m0, d0, x1, m1, d1, x4, m4, d4, x6, m6, d6, e, rdDev_ok.keep r0 hs, rdTab_ok.keep r4 hs⟩⟩
theorem rcStore_ok : RdOk 9 RcStore := ⟨fun ⟨_, _, _, _, _, _, _, _, _, _, _, _, e, _⟩ => by rw [e]; rfl, fun ⟨x0, m0, d0, x1, m1, d1, x4, m4, d4, x6, m6, d6, e, r0, r4⟩ hs => ⟨x0, m0, d0, x1, m1, d1, x4, m4, d4, x6, m6, d6, e, rcDev_ok.keep r0 hs, rcTab_ok.keep r4 hs⟩⟩
theorem rcStore_w {w : World} {cs : List Value} {a : StoreD} (h : RcStore w cs a) : RdStore w cs a := by
  obtain ⟨x0, m0, d0, x1, m1, d1, x4, m4, d4, x6, m6, d6, e, r0, r4⟩ := h
  exact ⟨x0, m0, d0, x1, m1, d1, x4, m4, d4, x6, m6, d6, e, rcDev_w r0, rcTab_w r4⟩
theorem owStore_ok : OwOk 9 OwStore RcStore where
  len := fun ⟨_, _, _, _, _, _, _, _, _, _, _, _, _, _, e, _⟩ => by rw [e]; rfl
  lt := fun {w _ F _} ⟨x0, m0, d0, x1, m1, d1, x4, m4, d4, x6, m6, d6, F0, F4, e, r0, r4, _, hF⟩ x hx => by
    rcases (hF x).1 hx with hx | hx
    · exact owDev_ok.lt r0 x hx
    · exact owTab_ok.lt r4 x hx
  keep := fun ⟨x0, m0, d0, x1, m1, d1, x4, m4, d4, x6, m6, d6, F0, F4, e, r0, r4, e0, hF⟩ hs => ⟨x0, m0, d0, x1, m1, d1, x4, m4, d4, x6, m6, d6, F0, F4, e, owDev_ok.keep r0 (fun b hb => hs b ((hF b).2 (.inl hb))), owTab_ok.keep r4 (fun b hb => hs b ((hF b).2 (.inr (hb)))), e0, hF⟩
  rd := fun ⟨x0, m0, d0, x1, m1, d1, x4, m4, d4, x6, m6, d6, F0, F4, e, r0, r4, _, _⟩ => ⟨x0, m0, d0, x1, m1, d1, x4, m4, d4, x6, m6, d6, e, owDev_ok.rd r0, owTab_ok.rd r4⟩
theorem infoStore : (Tryz.prog.info? 42).map (·.size) = some 9 := by kernel_rfl
def wtStore (a : StoreD) : Nat := wtDev (a.d) + wtTab (a.t)

set_option maxHeartbeats 4000000 in
theorem szStore_rd (cs : List Value) (a : StoreD) (n : Int) (w : World) (h : RdStore w cs a) (hn : 0 ≤ n ∧ n ≤ 1048576) :
    Calls Tryz.prog 4 #[.agg cs.toArray, .int .i64 n] w (SzOut n (wtStore a) w) := by
  obtain ⟨⟨l0, l1, l2, l3⟩, ⟨l4, l5, l6⟩, l7, l8⟩ := a
  simp only [RdStore] at h
  obtain ⟨x0, m0, d0, x1, m1, d1, x4, m4, d4, x6, m6, d6, rfl, r0, r4⟩ := h
  unfold wtStore
  dsimp only
  have R0 : Hd (RdDev w [.slice x0 m0 d0, .slice x1 m1 d1, .int .i64 l2, .bool l3] (⟨l0, l1, l2, l3⟩ : DevD)) := ⟨r0⟩
  have R4 : Hd (RdTab w [.slice x4 m4 d4, .int .i64 l5, .slice x6 m6 d6] (⟨l4, l5, l6⟩ : TabD)) := ⟨r4⟩
  have N0 : Hd (0 ≤ n ∧ n ≤ n ∧ n ≤ 1048576 ∧ ((0 : Nat) : Int) + n ≤ n) := ⟨by omega⟩
  clear hn r0 r4
  go_enter Tryz.func4, Tryz.ntmps4
  go_wp2_with fail
  refine (szDev_rd _ (⟨l0, l1, l2, l3⟩ : DevD) (n) _ (rdDev_ok.below R0.out (below_lit w _)) ⟨by have := N0.out; omega, by have := N0.out; omega⟩).mono ?_
  rintro e w1 ⟨⟨s1, rfl, hs1, hs2, hs3⟩, hb⟩
  have K1 : Hd (w1.heap[w.heap.size]? = some (.cells #[.slice x0 m0 d0, .slice x1 m1 d1, .int .i64 l2, .bool l3, .slice x4 m4 d4, .int .i64 l5, .slice x6 m6 d6, .int .i64 l7, .int .i64 l8] 31 (0, 0))) := ⟨(hb.block _ (by simp)).trans (heap_alloc_new w _)⟩
  have B1 : Hd (Below w.heap.size w w1) := ⟨Below.next (below_lit w _) hb⟩
  have M1 : Hd (s1 ≤ n ∧ n ≤ 1048576 ∧ (0 ≤ s1 → ((wtDev (⟨l0, l1, l2, l3⟩ : DevD) : Nat) : Int) + s1 ≤ n)) := ⟨by have := N0.out; refine ⟨by omega, by omega, fun hh => ?_⟩; have := hs3 hh; omega⟩
  clear hs1 hs2 hs3 hb
  by_cases hz1 : s1 < 0
  · go_wp2_with fail
    go_ret
    exact ⟨⟨-1, rfl, by omega, by have := N0.out; omega, fun h => by omega⟩, B1.out⟩
  have N1 : Hd (0 ≤ s1 ∧ s1 ≤ n ∧ n ≤ 1048576 ∧ ((wtDev (⟨l0, l1, l2, l3⟩ : DevD) : Nat) : Int) + s1 ≤ n) := ⟨by have := M1.out; omega⟩
  have c4 := cellsA K1.out 4 rfl
  have c5 := cellsA K1.out 5 rfl
  have c6 := cellsA K1.out 6 rfl
  go_wp2_with fail
  clear hz1
  clear c4 c5 c6
  refine (szTab_rd _ (⟨l4, l5, l6⟩ : TabD) (s1) _ (rdTab_ok.below R4.out B1.out) ⟨by have := N1.out; omega, by have := N1.out; omega⟩).mono ?_
  rintro e w2 ⟨⟨s2, rfl, hs1, hs2, hs3⟩, hb⟩
  have K2 : Hd (w2.heap[w.heap.size]? = some (.cells #[.slice x0 m0 d0, .slice x1 m1 d1, .int .i64 l2, .bool l3, .slice x4 m4 d4, .int .i64 l5, .slice x6 m6 d6, .int .i64 l7, .int .i64 l8] 31 (0, 0))) := ⟨(hb.block _ (lt_of_block K1.out)).trans K1.out⟩
  have B2 : Hd (Below w.heap.size w w2) := ⟨Below.next B1.out hb⟩
  have M2 : Hd (s2 ≤ n ∧ n ≤ 1048576 ∧ (0 ≤ s2 → ((wtDev (⟨l0, l1, l2, l3⟩ : DevD) + wtTab (⟨l4, l5, l6⟩ : TabD) : Nat) : Int) + s2 ≤ n)) := ⟨by have := N1.out; refine ⟨by omega, by omega, fun hh => ?_⟩; have := hs3 hh; omega⟩
  clear hs1 hs2 hs3 hb
  by_cases hz2 : s2 < 0
  · go_wp2_with fail
    go_ret
    exact ⟨⟨-1, rfl, by omega, by have := N0.out; omega, fun h => by omega⟩, B2.out⟩
  have N2 : Hd (0 ≤ s2 ∧ s2 ≤ n ∧ n ≤ 1048576 ∧ ((wtDev (⟨l0, l1, l2, l3⟩ : DevD) + wtTab (⟨l4, l5, l6⟩ : TabD) : Nat) : Int) + s2 ≤ n) := ⟨by have := M2.out; omega⟩
  go_wp2_with fail
  go_ret
  exact ⟨⟨s2, rfl, by have := N2.out; omega, by have := N2.out; omega, fun _ => N2.out.2.2.2⟩, B2.out⟩

set_option maxHeartbeats 4000000 in
theorem eqStore_rd (c1 c2 : List Value) (a : StoreD) (w : World) (h1 : RdStore w c1 a) (h2 : RdStore w c2 a) (hw : wtStore a ≤ 1073741824) :
    Calls Tryz.prog 8 #[.agg c1.toArray, .agg c2.toArray] w fun e w' => e = .returned (.bool true) ∧ Below w.heap.size w w' := by
  obtain ⟨⟨l0, l1, l2, l3⟩, ⟨l4, l5, l6⟩, l7, l8⟩ := a
  simp only [RdStore] at h1 h2
  obtain ⟨x0, m0, d0, x1, m1, d1, x4, m4, d4, x6, m6, d6, rfl, r0, r4⟩ := h1
  obtain ⟨y0, n0, b0, y1, n1, b1, y4, n4, b4, y6, n6, b6, rfl, t0, t4⟩ := h2
  unfold wtStore at hw
  dsimp only at hw
  have R0 : Hd (RdDev w [.slice x0 m0 d0, .slice x1 m1 d1, .int .i64 l2, .bool l3] (⟨l0, l1, l2, l3⟩ : DevD) ∧ RdDev w [.slice y0 n0 b0, .slice y1 n1 b1, .int .i64 l2, .bool l3] (⟨l0, l1, l2, l3⟩ : DevD) ∧ wtDev (⟨l0, l1, l2, l3⟩ : DevD) ≤ 1073741824) := ⟨r0, t0, by omega⟩
  have R4 : Hd (RdTab w [.slice x4 m4 d4, .int .i64 l5, .slice x6 m6 d6] (⟨l4, l5, l6⟩ : TabD) ∧ RdTab w [.slice y4 n4 b4, .int .i64 l5, .slice y6 n6 b6] (⟨l4, l5, l6⟩ : TabD) ∧ wtTab (⟨l4, l5, l6⟩ : TabD) ≤ 1073741824) := ⟨r4, t4, by omega⟩
  have f7 : (l7 != l7) = false := by simp
  have f8 : (l8 != l8) = false := by simp
  clear hw r0 t0 r4 t4
  go_enter Tryz.func8, Tryz.ntmps8
  go_wp2_with fail
  generalize hA : Obj.cells #[Value.slice x0 m0 d0, .slice x1 m1 d1, .int .i64 l2, .bool l3, .slice x4 m4 d4, .int .i64 l5, .slice x6 m6 d6, .int .i64 l7, .int .i64 l8] 42 = A
  generalize hB : Obj.cells #[Value.slice y0 n0 b0, .slice y1 n1 b1, .int .i64 l2, .bool l3, .slice y4 n4 b4, .int .i64 l5, .slice y6 n6 b6, .int .i64 l7, .int .i64 l8] 42 = B
  have h0 : Below w.heap.size w ((w.alloc A).alloc B) := below_lit2 w A B
  refine (eqDev_rd _ _ (⟨l0, l1, l2, l3⟩ : DevD) _ (rdDev_ok.below R0.out.1 h0) (rdDev_ok.below R0.out.2.1 h0) R0.out.2.2).mono ?_
  rintro e w1 ⟨rfl, hb⟩
  obtain ⟨k1, k2⟩ := laid2 w A B
  subst hA hB
  have K1 : Hd (w1.heap[w.heap.size]? = some (.cells #[Value.slice x0 m0 d0, .slice x1 m1 d1, .int .i64 l2, .bool l3, .slice x4 m4 d4, .int .i64 l5, .slice x6 m6 d6, .int .i64 l7, .int .i64 l8] 42 (0, 0))) := ⟨(hb.block _ (by simp; omega)).trans k1⟩
  have G1 : Hd (w1.heap[w.heap.size + 1]? = some (.cells #[Value.slice y0 n0 b0, .slice y1 n1 b1, .int .i64 l2, .bool l3, .slice y4 n4 b4, .int .i64 l5, .slice y6 n6 b6, .int .i64 l7, .int .i64 l8] 42 (0, 0))) := ⟨(hb.block _ (by simp)).trans k2⟩
  have B1 : Hd (Below w.heap.size w w1) := ⟨Below.next h0 hb⟩
  clear hb h0 k1 k2
  have u4 := cellsA K1.out 4 rfl
  have v4 := cellsA G1.out 4 rfl
  have u5 := cellsA K1.out 5 rfl
  have v5 := cellsA G1.out 5 rfl
  have u6 := cellsA K1.out 6 rfl
  have v6 := cellsA G1.out 6 rfl
  go_wp2_with fail
  clear u4 v4 u5 v5 u6 v6
  refine (eqTab_rd _ _ (⟨l4, l5, l6⟩ : TabD) _ (rdTab_ok.below R4.out.1 B1.out) (rdTab_ok.below R4.out.2.1 B1.out) R4.out.2.2).mono ?_
  rintro e w2 ⟨rfl, hb⟩
  have K2 : Hd (w2.heap[w.heap.size]? = some (.cells #[Value.slice x0 m0 d0, .slice x1 m1 d1, .int .i64 l2, .bool l3, .slice x4 m4 d4, .int .i64 l5, .slice x6 m6 d6, .int .i64 l7, .int .i64 l8] 42 (0, 0))) := ⟨(hb.block _ (lt_of_block K1.out)).trans K1.out⟩
  have G2 : Hd (w2.heap[w.heap.size + 1]? = some (.cells #[Value.slice y0 n0 b0, .slice y1 n1 b1, .int .i64 l2, .bool l3, .slice y4 n4 b4, .int .i64 l5, .slice y6 n6 b6, .int .i64 l7, .int .i64 l8] 42 (0, 0))) := ⟨(hb.block _ (lt_of_block G1.out)).trans G1.out⟩
  have B2 : Hd (Below w.heap.size w w2) := ⟨Below.next B1.out hb⟩
  clear hb
  have u7 := cellsA K2.out 7 rfl
  have v7 := cellsA G2.out 7 rfl
  have u8 := cellsA K2.out 8 rfl
  have v8 := cellsA G2.out 8 rfl
  go_wp2_with fail
  go_ret
  exact ⟨rfl, B2.out⟩

end Go.Proofs.YtlididoalekeoaaGreatDoor
/- From the reading of a law's argument to the words of Deep: a Dev, a Store. -/
namespace Go.Proofs.YtlididoalekeoaaGreatDoor
set_option maxRecDepth 4000
open Go.RowKit Go.ChangeShapes Go.WideShapes Go.ChangeAt

theorem rdByteSS_trod : RdT 22 RdByteSS := rdS_trod Tryz.underlying22 (by kernel_rfl) (by omega) rdB_trod' rdB_ok

theorem rdWr_trod : RdT 92 RdWr := by
  intro H enc W base sp held fuel cs x h
  obtain ⟨xs, m, _, _, hcl, hxl, hf⟩ := DataW.trod_struct Tryz.underlying92 h
  rw [show Tryz.prog.cellsOf 92 = 2 from by kernel_rfl] at hcl
  rcases cs with _ | ⟨c0, cs⟩
  · simp at hcl
  rcases cs with _ | ⟨c1, cs⟩
  · simp at hcl
  rcases cs with _ | ⟨c2, cs⟩
  rotate_left
  · simp at hcl
  obtain ⟨y0, hy0⟩ := get_some (l := xs) (j := 0) (by rw [hxl]; decide)
  have h0 := hf 0 _ rfl
  rw [hy0] at h0
  replace h0 : DataW.trod enc Tryz.prog W base sp held m 3 (List.take (Tryz.prog.cellsOf 3) (List.drop 0 _)) = some y0 := h0
  rw [show Tryz.prog.cellsOf 3 = 1 from by kernel_rfl] at h0
  replace h0 : DataW.trod enc Tryz.prog W base sp held m 3 [c0] = some y0 := h0
  obtain ⟨a0, e0, _⟩ := DataW.trod_int Tryz.underlying3 h0
  simp only [List.cons.injEq, and_true] at e0
  subst e0
  obtain ⟨y1, hy1⟩ := get_some (l := xs) (j := 1) (by rw [hxl]; decide)
  have h1 := hf 1 _ rfl
  rw [hy1] at h1
  replace h1 : DataW.trod enc Tryz.prog W base sp held m 60 (List.take (Tryz.prog.cellsOf 60) (List.drop 1 _)) = some y1 := h1
  rw [show Tryz.prog.cellsOf 60 = 1 from by kernel_rfl] at h1
  replace h1 : DataW.trod enc Tryz.prog W base sp held m 60 [c1] = some y1 := h1
  obtain ⟨a1, hr1⟩ := rdB_trod' enc W base sp held m _ y1 h1
  obtain ⟨x1, m1, d1, e1⟩ : ∃ x m d, c1 = .slice x m d := by obtain ⟨x, m, d, e, _⟩ := id hr1; simp only [List.cons.injEq, and_true] at e; exact ⟨x, m, d, e⟩
  subst e1
  exact ⟨⟨a0, a1⟩, x1, m1, d1, rfl, hr1⟩

theorem rdWrS_trod : RdT 23 RdWrS := rdS_trod Tryz.underlying23 (by kernel_rfl) (by omega) rdWr_trod rdWr_ok

theorem rdDev_trod : RdT 25 RdDev := by
  intro H enc W base sp held fuel cs x h
  obtain ⟨xs, m, _, _, hcl, hxl, hf⟩ := DataW.trod_struct Tryz.underlying25 h
  rw [show Tryz.prog.cellsOf 25 = 4 from by kernel_rfl] at hcl
  rcases cs with _ | ⟨c0, cs⟩
  · simp at hcl
  rcases cs with _ | ⟨c1, cs⟩
  · simp at hcl
  rcases cs with _ | ⟨c2, cs⟩
  · simp at hcl
  rcases cs with _ | ⟨c3, cs⟩
  · simp at hcl
  rcases cs with _ | ⟨c4, cs⟩
  rotate_left
  · simp at hcl
  obtain ⟨y0, hy0⟩ := get_some (l := xs) (j := 0) (by rw [hxl]; decide)
  have h0 := hf 0 _ rfl
  rw [hy0] at h0
  replace h0 : DataW.trod enc Tryz.prog W base sp held m 22 (List.take (Tryz.prog.cellsOf 22) (List.drop 0 _)) = some y0 := h0
  rw [show Tryz.prog.cellsOf 22 = 1 from by kernel_rfl] at h0
  replace h0 : DataW.trod enc Tryz.prog W base sp held m 22 [c0] = some y0 := h0
  obtain ⟨a0, hr0⟩ := rdByteSS_trod enc W base sp held m _ y0 h0
  obtain ⟨x0, m0, d0, e0⟩ : ∃ x m d, c0 = .slice x m d := by obtain ⟨x, m, d, e, _⟩ := id hr0; simp only [List.cons.injEq, and_true] at e; exact ⟨x, m, d, e⟩
  subst e0
  obtain ⟨y1, hy1⟩ := get_some (l := xs) (j := 1) (by rw [hxl]; decide)
  have h1 := hf 1 _ rfl
  rw [hy1] at h1
  replace h1 : DataW.trod enc Tryz.prog W base sp held m 23 (List.take (Tryz.prog.cellsOf 23) (List.drop 1 _)) = some y1 := h1
  rw [show Tryz.prog.cellsOf 23 = 1 from by kernel_rfl] at h1
  replace h1 : DataW.trod enc Tryz.prog W base sp held m 23 [c1] = some y1 := h1
  obtain ⟨a1, hr1⟩ := rdWrS_trod enc W base sp held m _ y1 h1
  obtain ⟨x1, m1, d1, e1⟩ : ∃ x m d, c1 = .slice x m d := by obtain ⟨x, m, d, e, _⟩ := id hr1; simp only [List.cons.injEq, and_true] at e; exact ⟨x, m, d, e⟩
  subst e1
  obtain ⟨y2, hy2⟩ := get_some (l := xs) (j := 2) (by rw [hxl]; decide)
  have h2 := hf 2 _ rfl
  rw [hy2] at h2
  replace h2 : DataW.trod enc Tryz.prog W base sp held m 3 (List.take (Tryz.prog.cellsOf 3) (List.drop 2 _)) = some y2 := h2
  rw [show Tryz.prog.cellsOf 3 = 1 from by kernel_rfl] at h2
  replace h2 : DataW.trod enc Tryz.prog W base sp held m 3 [c2] = some y2 := h2
  obtain ⟨a2, e2, _⟩ := DataW.trod_int Tryz.underlying3 h2
  simp only [List.cons.injEq, and_true] at e2
  subst e2
  obtain ⟨y3, hy3⟩ := get_some (l := xs) (j := 3) (by rw [hxl]; decide)
  have h3 := hf 3 _ rfl
  rw [hy3] at h3
  replace h3 : DataW.trod enc Tryz.prog W base sp held m 4 (List.take (Tryz.prog.cellsOf 4) (List.drop 3 _)) = some y3 := h3
  rw [show Tryz.prog.cellsOf 4 = 1 from by kernel_rfl] at h3
  replace h3 : DataW.trod enc Tryz.prog W base sp held m 4 [c3] = some y3 := h3
  obtain ⟨a3, e3, _⟩ := DataW.trod_bool Tryz.underlying4 h3
  simp only [List.cons.injEq, and_true] at e3
  subst e3
  exact ⟨⟨a0, a1, a2, a3⟩, x0, m0, d0, x1, m1, d1, rfl, hr0, hr1⟩

theorem rdStore_trod : RdT 31 RdStore := by
  intro H enc W base sp held fuel cs x h
  obtain ⟨xs, m, _, _, hcl, hxl, hf⟩ := DataW.trod_struct Tryz.underlying31 h
  rw [show Tryz.prog.cellsOf 31 = 9 from by kernel_rfl] at hcl
  rcases cs with _ | ⟨c0, cs⟩
  · simp at hcl
  rcases cs with _ | ⟨c1, cs⟩
  · simp at hcl
  rcases cs with _ | ⟨c2, cs⟩
  · simp at hcl
  rcases cs with _ | ⟨c3, cs⟩
  · simp at hcl
  rcases cs with _ | ⟨c4, cs⟩
  · simp at hcl
  rcases cs with _ | ⟨c5, cs⟩
  · simp at hcl
  rcases cs with _ | ⟨c6, cs⟩
  · simp at hcl
  rcases cs with _ | ⟨c7, cs⟩
  · simp at hcl
  rcases cs with _ | ⟨c8, cs⟩
  · simp at hcl
  rcases cs with _ | ⟨c9, cs⟩
  rotate_left
  · simp at hcl
  obtain ⟨y0, hy0⟩ := get_some (l := xs) (j := 0) (by rw [hxl]; decide)
  have h0 := hf 0 _ rfl
  rw [hy0] at h0
  replace h0 : DataW.trod enc Tryz.prog W base sp held m 25 (List.take (Tryz.prog.cellsOf 25) (List.drop 0 _)) = some y0 := h0
  rw [show Tryz.prog.cellsOf 25 = 4 from by kernel_rfl] at h0
  replace h0 : DataW.trod enc Tryz.prog W base sp held m 25 [c0, c1, c2, c3] = some y0 := h0
  obtain ⟨⟨a0, a1, a2, a3⟩, hr0⟩ := rdDev_trod enc W base sp held m _ y0 h0
  have hq0 := hr0
  simp only [RdDev] at hq0
  obtain ⟨x0, m0, d0, x1, m1, d1, e0, _⟩ := hq0
  simp only [List.cons.injEq, and_true] at e0
  obtain ⟨rfl, rfl, rfl, rfl⟩ := e0
  obtain ⟨y1, hy1⟩ := get_some (l := xs) (j := 1) (by rw [hxl]; decide)
  have h1 := hf 1 _ rfl
  rw [hy1] at h1
  replace h1 : DataW.trod enc Tryz.prog W base sp held m 29 (List.take (Tryz.prog.cellsOf 29) (List.drop 4 _)) = some y1 := h1
  rw [show Tryz.prog.cellsOf 29 = 3 from by kernel_rfl] at h1
  replace h1 : DataW.trod enc Tryz.prog W base sp held m 29 [c4, c5, c6] = some y1 := h1
  obtain ⟨⟨a4, a5, a6⟩, hr4⟩ := rdTab_trod enc W base sp held m _ y1 h1
  have hq4 := hr4
  simp only [RdTab] at hq4
  obtain ⟨x4, m4, d4, x6, m6, d6, e1, _⟩ := hq4
  simp only [List.cons.injEq, and_true] at e1
  obtain ⟨rfl, rfl, rfl⟩ := e1
  obtain ⟨y2, hy2⟩ := get_some (l := xs) (j := 2) (by rw [hxl]; decide)
  have h2 := hf 2 _ rfl
  rw [hy2] at h2
  replace h2 : DataW.trod enc Tryz.prog W base sp held m 3 (List.take (Tryz.prog.cellsOf 3) (List.drop 7 _)) = some y2 := h2
  rw [show Tryz.prog.cellsOf 3 = 1 from by kernel_rfl] at h2
  replace h2 : DataW.trod enc Tryz.prog W base sp held m 3 [c7] = some y2 := h2
  obtain ⟨a7, e2, _⟩ := DataW.trod_int Tryz.underlying3 h2
  simp only [List.cons.injEq, and_true] at e2
  subst e2
  obtain ⟨y3, hy3⟩ := get_some (l := xs) (j := 3) (by rw [hxl]; decide)
  have h3 := hf 3 _ rfl
  rw [hy3] at h3
  replace h3 : DataW.trod enc Tryz.prog W base sp held m 3 (List.take (Tryz.prog.cellsOf 3) (List.drop 8 _)) = some y3 := h3
  rw [show Tryz.prog.cellsOf 3 = 1 from by kernel_rfl] at h3
  replace h3 : DataW.trod enc Tryz.prog W base sp held m 3 [c8] = some y3 := h3
  obtain ⟨a8, e3, _⟩ := DataW.trod_int Tryz.underlying3 h3
  simp only [List.cons.injEq, and_true] at e3
  subst e3
  exact ⟨(⟨(⟨a0, a1, a2, a3⟩ : DevD), (⟨a4, a5, a6⟩ : TabD), a7, a8⟩ : StoreD), x0, m0, d0, x1, m1, d1, x4, m4, d4, x6, m6, d6, rfl, hr0, hr4⟩

end Go.Proofs.YtlididoalekeoaaGreatDoor
/- What a law's walk carries where nothing is marked: variables in boxes that are read. -/
namespace Go.Proofs.YtlididoalekeoaaGreatDoor
set_option maxRecDepth 4000
open Go.RowKit

structure BR {α : Type} (T : TypeId) (R : Rd α) (b : Nat) (cs : List Value) (a : α) (w : World) : Prop where
  box : w.heap[b]? = some (.cells cs.toArray T (0, 0))
  lo : R w cs a
theorem BR.below {α : Type} {T : TypeId} {R : Rd α} {n b : Nat} {cs : List Value} {a : α} {w w' : World} (ok : RdOk n R) (h : BR T R b cs a w) (hb : Below w.heap.size w w') : BR T R b cs a w' :=
  ⟨(hb.block b (block_lt h.box)).trans h.box, ok.below h.lo hb⟩
theorem br_new {α : Type} {T : TypeId} {R : Rd α} {n : Nat} {cs : List Value} {a : α} {w : World} (ok : RdOk n R) (hR : R w cs a) : BR T R w.heap.size cs a (w.alloc (.cells cs.toArray T)) := ⟨heap_alloc_new w _, ok.below hR (below_lit w _)⟩
/-- Two answers, the first a struct. -/
structure AnsT {α : Type} (R : Rd α) (a : α) (v : Value) (w : World) (e : Ending) (w' : World) : Prop where
  out : ∃ cs, e = .returned (.tuple #[.agg cs.toArray, v]) ∧ R w' cs a
  below : Below w.heap.size w w'

end Go.Proofs.YtlididoalekeoaaGreatDoor
/- The parts of a Tab as records. -/
namespace Go.Proofs.YtlididoalekeoaaGreatDoor
set_option maxRecDepth 4000
open Go.RowKit

def phaseR (p : Int) : RecD := ⟨3, ⟨⟨#[]⟩, 0, [], 0, [], 0, false⟩, ⟨#[]⟩, p, 0, 0, 0⟩
def rowR (r : RowD) : RecD := ⟨1, r, ⟨#[]⟩, 0, 0, 0, 0⟩
def markR (m : MarkD) : RecD := ⟨4, ⟨⟨#[]⟩, 0, [], 0, [], 0, false⟩, ⟨#[]⟩, 0, m.who, m.seq, m.code⟩
def partsL (t : TabD) : List RecD := phaseR t.phase :: (t.rows.map rowR ++ t.marks.map markR)

end Go.Proofs.YtlididoalekeoaaGreatDoor
/- The walks of spec.NameOk and impl.NameOk: both answer nameOkB. -/
namespace Go.Proofs.YtlididoalekeoaaGreatDoor
set_option maxRecDepth 4000
open Go.RowKit

def nmB (c : Int) : Bool := decide ((97 ≤ c ∧ c ≤ 122) ∨ (48 ≤ c ∧ c ≤ 57))
theorem nm_t {c : Int} (h : (97 ≤ c ∧ c ≤ 122) ∨ (48 ≤ c ∧ c ≤ 57)) : true = nmB c := (decide_eq_true h).symm
theorem nm_f {c : Int} (h : ¬((97 ≤ c ∧ c ≤ 122) ∨ (48 ≤ c ∧ c ≤ 57))) : false = nmB c := (decide_eq_false h).symm

set_option maxHeartbeats 400000 in
theorem nameByte_any (c : Nat) (w : World) : Calls Tryz.prog 79 #[.int .u8 c] w fun e w' => e = .returned (.bool (nmB c)) ∧ w' = w := by
  rcases (show (97 ≤ c ∧ c ≤ 122) ∨ (c < 48) ∨ (48 ≤ c ∧ c ≤ 57) ∨ (57 < c ∧ c < 97) ∨ (122 < c) from by omega) with h | h | h | h | h
  all_goals
    go_enter Tryz.func79, Tryz.ntmps79
    go_wp2
    go_ret
    exact ⟨ret_bool (by rw [Bool.eq_iff_iff]; simp [nmB]; omega), rfl⟩

def allTo (s : ByteArray) (k : Nat) : Prop := ∀ j, (h : j < s.size) → j < k → nmB (s[j].toNat : Int) = true
theorem allTo_succ {s : ByteArray} {k : Nat} (hk : k < s.size) (h : allTo s k) (hn : nmB (s[k].toNat : Int) = true) : allTo s (k + 1) := by
  intro j hj hlt
  rcases Nat.lt_succ_iff_lt_or_eq.1 hlt with h1 | rfl
  · exact h j hj h1
  · exact hn
def nameOkB (s : ByteArray) : Bool := s.data.toList.all (fun c => nmB (c.toNat : Int)) && decide (1 ≤ s.size) && decide (s.size ≤ 6)
theorem all_iff (s : ByteArray) : s.data.toList.all (fun c => nmB (c.toNat : Int)) = true ↔ allTo s s.size := by
  rw [List.all_eq_true]
  constructor
  · intro h j hj _
    exact h _ (List.getElem_mem (l := s.data.toList) (n := j) (by simpa using hj))
  · intro h c hc
    obtain ⟨j, hj, rfl⟩ := List.getElem_of_mem hc
    have hj' : j < s.size := by simpa using hj
    exact h j hj' hj'
theorem nameOk_of_all {s : ByteArray} (h : allTo s s.size) : nameOkB s = (decide (1 ≤ s.size) && decide (s.size ≤ 6)) := by
  unfold nameOkB; rw [(all_iff s).2 h]; simp
theorem nameOk_of_not {s : ByteArray} {k : Nat} (hk : k < s.size) (h : nmB (s[k].toNat : Int) = false) : nameOkB s = false := by
  have : s.data.toList.all (fun c => nmB (c.toNat : Int)) = false := by
    rw [Bool.eq_false_iff]; intro ha
    have := (all_iff s).1 ha k hk hk
    rw [h] at this; cases this
  unfold nameOkB; rw [this]; simp
theorem nameOk_of_len {s : ByteArray} (h : s.size < 1 ∨ 6 < s.size) : nameOkB s = false := by
  unfold nameOkB
  rw [Bool.eq_false_iff]; intro hh; simp at hh; omega

set_option maxHeartbeats 400000 in
theorem specNameOk_any (s : ByteArray) (w : World) (hs : s.size ≤ 1048576) :
    Calls Tryz.prog 48 #[.string s] w fun e w' => e = .returned (.bool (nameOkB s)) ∧ w' = w := by
  go_enter Tryz.func48, Tryz.ntmps48
  go_wp2_with fail
  go_loop [3] (fun i => ∃ k : Nat, k ≤ s.size ∧ i = .int .i64 k ∧ Hid (allTo s k)) (fun i => s.size - (intOf i).toNat)
  case atStart => exact ⟨0, Nat.zero_le _, rfl, fun j _ h => absurd h (by omega)⟩
  case round =>
    obtain ⟨k, hk, rfl, hall⟩ := hrel
    by_cases hlt : k < s.size
    · by_cases hA : inB (wrap64 (s[k].toNat : Int)) 97 122 = true
      · have hn : Hid (nmB (s[k].toNat : Int) = true) := by
          rw [wrap_byte] at hA
          have := of_decide_eq_true hA
          exact decide_eq_true (by omega)
        go_wp2_with (go_at_call 13; refine (l1In_any _ _ _ _).mono ?_; rintro e w' ⟨rfl, rfl⟩)
        go_round
        case rel => exact ⟨k + 1, by omega, by go_num, allTo_succ hlt hall hn.out⟩
        case measure => simp [intOf]; omega
      · rw [Bool.not_eq_true] at hA
        by_cases hB : inB (wrap64 (s[k].toNat : Int)) 48 57 = true
        · have hn : Hid (nmB (s[k].toNat : Int) = true) := by
            rw [wrap_byte] at hB
            have := of_decide_eq_true hB
            exact decide_eq_true (by omega)
          go_wp2_with (go_at_call 13; refine (l1In_any _ _ _ _).mono ?_; rintro e w' ⟨rfl, rfl⟩)
          go_round
          case rel => exact ⟨k + 1, by omega, by go_num, allTo_succ hlt hall hn.out⟩
          case measure => simp [intOf]; omega
        · rw [Bool.not_eq_true] at hB
          have hn : Hid (nmB (s[k].toNat : Int) = false) := by
            rw [wrap_byte] at hA hB
            have h1 := of_decide_eq_false hA
            have h2 := of_decide_eq_false hB
            exact decide_eq_false (by omega)
          go_wp2_with (go_at_call 13; refine (l1In_any _ _ _ _).mono ?_; rintro e w' ⟨rfl, rfl⟩)
          go_ret
          exact ⟨ret_bool (nameOk_of_not hlt hn.out).symm, rfl⟩
    · have hke : k = s.size := by omega
      have hfin : Hid (nameOkB s = inB (s.size : Int) 1 6) := by
        have h' : allTo s s.size := by rw [← hke]; exact hall.out
        have e := nameOk_of_all h'
        show _ = _
        rw [e, Bool.eq_iff_iff]; simp [inB]; omega
      clear hke
      go_wp2_with (go_at_call 13; refine (l1In_any _ _ _ _).mono ?_; rintro e w' ⟨rfl, rfl⟩)
      go_ret
      exact ⟨ret_bool hfin.out.symm, rfl⟩

set_option maxHeartbeats 400000 in
theorem implNameOk_any (s : ByteArray) (w : World) (hs : s.size ≤ 1048576) :
    Calls Tryz.prog 65 #[.string s] w fun e w' => e = .returned (.bool (nameOkB s)) ∧ w' = w := by
  by_cases h1 : s.size < 1
  · go_enter Tryz.func65, Tryz.ntmps65
    go_wp2
    go_ret
    exact ⟨ret_bool (nameOk_of_len (.inl h1)).symm, rfl⟩
  · by_cases h6 : 6 < s.size
    · go_enter Tryz.func65, Tryz.ntmps65
      go_wp2
      go_ret
      exact ⟨ret_bool (nameOk_of_len (.inr h6)).symm, rfl⟩
    · go_enter Tryz.func65, Tryz.ntmps65
      go_wp2_with fail
      go_loop [14] (fun i => ∃ k : Nat, k ≤ s.size ∧ i = .int .i64 k ∧ Hid (allTo s k)) (fun i => s.size - (intOf i).toNat)
      case atStart => exact ⟨0, Nat.zero_le _, rfl, fun j _ h => absurd h (by omega)⟩
      case round =>
        obtain ⟨k, hk, rfl, hall⟩ := hrel
        by_cases hlt : k < s.size
        · by_cases hA : nmB (s[k].toNat : Int) = true
          · go_wp2_with (go_at_call 79; refine (nameByte_any _ _).mono ?_; rintro e w' ⟨rfl, rfl⟩)
            go_round
            case rel => exact ⟨k + 1, by omega, by go_num, allTo_succ hlt hall hA⟩
            case measure => simp [intOf]; omega
          · rw [Bool.not_eq_true] at hA
            go_wp2_with (go_at_call 79; refine (nameByte_any _ _).mono ?_; rintro e w' ⟨rfl, rfl⟩)
            go_ret
            exact ⟨ret_bool (nameOk_of_not hlt hA).symm, rfl⟩
        · have hke : k = s.size := by omega
          have hfin : Hid (nameOkB s = true) := by
            have h' : allTo s s.size := by rw [← hke]; exact hall.out
            show _ = _
            rw [nameOk_of_all h']; simp; omega
          clear hke
          go_wp2
          go_ret
          exact ⟨ret_bool hfin.out.symm, rfl⟩

end Go.Proofs.YtlididoalekeoaaGreatDoor
