/- What the laws do with a Rec. -/
import Derived.Test.YtbeiocngiippgabDoorDeepA
import Derived.Test.YtbeiocngiippgabDoorDpRow
import Derived.Test.YtbeiocngiippgabDoorRecP
namespace Go.Proofs.YtbeiocngiippgabDoor
set_option maxRecDepth 4000
open Go.RowKit

def RdRec : Rd RecD := fun w cs a => ∃ (x3 : Option Addr) (m3 d3 : Nat) (x5 : Option Addr) (m5 d5 : Nat), cs = [.int .i64 a.kind, .string a.r.key, .int .i64 a.r.t1, .slice x3 m3 d3, .int .i64 a.r.t2, .slice x5 m5 d5, .int .i64 a.r.has, .bool a.r.aside, .string a.key, .int .i64 a.n, .int .i64 a.who, .int .i64 a.seq, .int .i64 a.code] ∧ a.key.size ≤ maxLen ∧ RdRow w [.string a.r.key, .int .i64 a.r.t1, .slice x3 m3 d3, .int .i64 a.r.t2, .slice x5 m5 d5, .int .i64 a.r.has, .bool a.r.aside] (a.r)
def RcRec : Rd RecD := fun w cs a => ∃ (x3 : Option Addr) (m3 d3 : Nat) (x5 : Option Addr) (m5 d5 : Nat), cs = [.int .i64 a.kind, .string a.r.key, .int .i64 a.r.t1, .slice x3 m3 d3, .int .i64 a.r.t2, .slice x5 m5 d5, .int .i64 a.r.has, .bool a.r.aside, .string a.key, .int .i64 a.n, .int .i64 a.who, .int .i64 a.seq, .int .i64 a.code] ∧ a.key.size ≤ maxLen ∧ RcRow w [.string a.r.key, .int .i64 a.r.t1, .slice x3 m3 d3, .int .i64 a.r.t2, .slice x5 m5 d5, .int .i64 a.r.has, .bool a.r.aside] (a.r)
def OwRec : Ow RecD := fun w cs F a => ∃ (x3 : Option Addr) (m3 d3 : Nat) (x5 : Option Addr) (m5 d5 : Nat) (F1 : Fp), cs = [.int .i64 a.kind, .string a.r.key, .int .i64 a.r.t1, .slice x3 m3 d3, .int .i64 a.r.t2, .slice x5 m5 d5, .int .i64 a.r.has, .bool a.r.aside, .string a.key, .int .i64 a.n, .int .i64 a.who, .int .i64 a.seq, .int .i64 a.code] ∧ a.key.size ≤ maxLen ∧ OwRow w [.string a.r.key, .int .i64 a.r.t1, .slice x3 m3 d3, .int .i64 a.r.t2, .slice x5 m5 d5, .int .i64 a.r.has, .bool a.r.aside] F1 (a.r) ∧ (∀ x, F x ↔ F1 x)
theorem rdRec_ok : RdOk 13 RdRec := ⟨fun ⟨_, _, _, _, _, _, e, _⟩ => by rw [e]; rfl, fun ⟨x3, m3, d3, x5, m5, d5, e, z8, r1⟩ hs => ⟨x3, m3, d3, x5, m5, d5, e, z8, rdRow_ok.keep r1 hs⟩⟩
theorem rcRec_ok : RdOk 13 RcRec := ⟨fun ⟨_, _, _, _, _, _, e, _⟩ => by rw [e]; rfl, fun ⟨x3, m3, d3, x5, m5, d5, e, z8, r1⟩ hs => ⟨x3, m3, d3, x5, m5, d5, e, z8, rcRow_ok.keep r1 hs⟩⟩
theorem rcRec_w {w : World} {cs : List Value} {a : RecD} (h : RcRec w cs a) : RdRec w cs a := by
  obtain ⟨x3, m3, d3, x5, m5, d5, e, z8, r1⟩ := h
  exact ⟨x3, m3, d3, x5, m5, d5, e, z8, rcRow_w r1⟩
theorem owRec_ok : OwOk 13 OwRec RcRec where
  len := fun ⟨_, _, _, _, _, _, _, e, _⟩ => by rw [e]; rfl
  lt := fun {w _ F _} ⟨x3, m3, d3, x5, m5, d5, F1, e, _, r1, hF⟩ x hx => by
    exact owRow_ok.lt r1 x ((hF x).1 hx)
  keep := fun ⟨x3, m3, d3, x5, m5, d5, F1, e, z8, r1, hF⟩ hs => ⟨x3, m3, d3, x5, m5, d5, F1, e, z8, owRow_ok.keep r1 (fun b hb => hs b ((hF b).2 hb)), hF⟩
  rd := fun ⟨x3, m3, d3, x5, m5, d5, F1, e, z8, r1, _⟩ => ⟨x3, m3, d3, x5, m5, d5, e, z8, owRow_ok.rd r1⟩
theorem infoRec : (Tryd.prog.info? 47).map (·.size) = some 13 := by kernel_rfl
def wtRec (a : RecD) : Nat := wtRow (a.r) + a.key.size
def ctRec (a : RecD) : Nat := 1 + 1 + 1 + ctB (a.r.b1) + 1 + ctB (a.r.b2) + 1 + 1 + 1 + 1 + 1 + 1 + 1
def cuRec (a : RecD) : Nat := cuRow (a.r)
def mtRec (m : Nat) (a : RecD) : RecD := (⟨a.kind, (⟨a.r.key, a.r.t1, mkB (m) (a.r.b1), a.r.t2, mkB (m + ctB (a.r.b1)) (a.r.b2), a.r.has, a.r.aside⟩ : RowD), a.key, a.n, a.who, a.seq, a.code⟩ : RecD)

set_option maxHeartbeats 4000000 in
theorem szRec_rd (cs : List Value) (a : RecD) (n : Int) (w : World) (h : RdRec w cs a) (hn : 0 ≤ n ∧ n ≤ 1048576) :
    Calls Tryd.prog 19 #[.agg cs.toArray, .int .i64 n] w (SzOut n (wtRec a) w) := by
  obtain ⟨l0, ⟨l1, l2, l3, l4, l5, l6, l7⟩, l8, l9, l10, l11, l12⟩ := a
  simp only [RdRec] at h
  obtain ⟨x3, m3, d3, x5, m5, d5, rfl, z8, r1⟩ := h
  unfold wtRec
  dsimp only
  have R1 : Hd (RdRow w [.string l1, .int .i64 l2, .slice x3 m3 d3, .int .i64 l4, .slice x5 m5 d5, .int .i64 l6, .bool l7] (⟨l1, l2, l3, l4, l5, l6, l7⟩ : RowD)) := ⟨r1⟩
  have Z8 : Hd (l8.size ≤ maxLen) := ⟨z8⟩
  have N0 : Hd (0 ≤ n ∧ n ≤ n ∧ n ≤ 1048576 ∧ ((0 : Nat) : Int) + n ≤ n) := ⟨by omega⟩
  clear hn r1 z8
  go_enter Tryd.func19, Tryd.ntmps19
  go_wp2_with fail
  refine (szRow_rd _ (⟨l1, l2, l3, l4, l5, l6, l7⟩ : RowD) (n) _ (rdRow_ok.below R1.out (below_lit w _)) ⟨by have := N0.out; omega, by have := N0.out; omega⟩).mono ?_
  rintro e w1 ⟨⟨s1, rfl, hs1, hs2, hs3⟩, hb⟩
  have K1 : Hd (w1.heap[w.heap.size]? = some (.cells #[.int .i64 l0, .string l1, .int .i64 l2, .slice x3 m3 d3, .int .i64 l4, .slice x5 m5 d5, .int .i64 l6, .bool l7, .string l8, .int .i64 l9, .int .i64 l10, .int .i64 l11, .int .i64 l12] 43 (0, 0))) := ⟨(hb.block _ (by simp)).trans (heap_alloc_new w _)⟩
  have B1 : Hd (Below w.heap.size w w1) := ⟨Below.next (below_lit w _) hb⟩
  have M1 : Hd (s1 ≤ n ∧ n ≤ 1048576 ∧ (0 ≤ s1 → ((wtRow (⟨l1, l2, l3, l4, l5, l6, l7⟩ : RowD) : Nat) : Int) + s1 ≤ n)) := ⟨by have := N0.out; refine ⟨by omega, by omega, fun hh => ?_⟩; have := hs3 hh; omega⟩
  clear hs1 hs2 hs3 hb
  by_cases hz1 : s1 < 0
  · go_wp2_with fail
    go_ret
    exact ⟨⟨-1, rfl, by omega, by have := N0.out; omega, fun h => by omega⟩, B1.out⟩
  have N1 : Hd (0 ≤ s1 ∧ s1 ≤ n ∧ n ≤ 1048576 ∧ ((wtRow (⟨l1, l2, l3, l4, l5, l6, l7⟩ : RowD) : Nat) : Int) + s1 ≤ n) := ⟨by have := M1.out; omega⟩
  have c8 := cellsA K1.out 8 rfl
  have c9 := cellsA K1.out 9 rfl
  have c10 := cellsA K1.out 10 rfl
  have c11 := cellsA K1.out 11 rfl
  have c12 := cellsA K1.out 12 rfl
  have hw8 : wrap64 (s1 - (l8.size : Int)) = s1 - (l8.size : Int) := by have h1 := Z8.out; have h2 := N1.out; unfold maxLen at h1; exact wrap64_in (by omega) (by omega)
  by_cases hq8 : s1 - (l8.size : Int) < 0
  · go_wp2_with fail
    go_ret
    exact ⟨⟨-1, rfl, by omega, by have := N0.out; omega, fun h => by omega⟩, B1.out⟩
  have N2 : Hd (0 ≤ s1 - (l8.size : Int) ∧ s1 - (l8.size : Int) ≤ n ∧ n ≤ 1048576 ∧ ((wtRow (⟨l1, l2, l3, l4, l5, l6, l7⟩ : RowD) + l8.size : Nat) : Int) + (s1 - (l8.size : Int)) ≤ n) := ⟨by have := N1.out; omega⟩
  go_wp2_with fail
  go_ret
  exact ⟨⟨s1 - (l8.size : Int), by first | rfl | (show Ending.returned (Value.int IntKind.i64 (wrap64 (s1 - (l8.size : Int)))) = _; rw [hw8]), by have := N2.out; omega, by have := N2.out; omega, fun _ => N2.out.2.2.2⟩, B1.out⟩

set_option maxHeartbeats 4000000 in
theorem eqRec_rd (c1 c2 : List Value) (a : RecD) (w : World) (h1 : RdRec w c1 a) (h2 : RdRec w c2 a) (hw : wtRec a ≤ 1073741824) :
    Calls Tryd.prog 23 #[.agg c1.toArray, .agg c2.toArray] w fun e w' => e = .returned (.bool true) ∧ Below w.heap.size w w' := by
  obtain ⟨l0, ⟨l1, l2, l3, l4, l5, l6, l7⟩, l8, l9, l10, l11, l12⟩ := a
  simp only [RdRec] at h1 h2
  obtain ⟨x3, m3, d3, x5, m5, d5, rfl, _, r1⟩ := h1
  obtain ⟨y3, n3, b3, y5, n5, b5, rfl, _, t1⟩ := h2
  unfold wtRec at hw
  dsimp only at hw
  have R1 : Hd (RdRow w [.string l1, .int .i64 l2, .slice x3 m3 d3, .int .i64 l4, .slice x5 m5 d5, .int .i64 l6, .bool l7] (⟨l1, l2, l3, l4, l5, l6, l7⟩ : RowD) ∧ RdRow w [.string l1, .int .i64 l2, .slice y3 n3 b3, .int .i64 l4, .slice y5 n5 b5, .int .i64 l6, .bool l7] (⟨l1, l2, l3, l4, l5, l6, l7⟩ : RowD) ∧ wtRow (⟨l1, l2, l3, l4, l5, l6, l7⟩ : RowD) ≤ 1073741824) := ⟨r1, t1, by omega⟩
  have f0 : (l0 != l0) = false := by simp
  have f8 : (l8.toList != l8.toList) = false := by simp
  have f9 : (l9 != l9) = false := by simp
  have f10 : (l10 != l10) = false := by simp
  have f11 : (l11 != l11) = false := by simp
  have f12 : (l12 != l12) = false := by simp
  clear hw r1 t1
  go_enter Tryd.func23, Tryd.ntmps23
  go_wp2_with fail
  generalize hA : Obj.cells #[Value.int .i64 l0, .string l1, .int .i64 l2, .slice x3 m3 d3, .int .i64 l4, .slice x5 m5 d5, .int .i64 l6, .bool l7, .string l8, .int .i64 l9, .int .i64 l10, .int .i64 l11, .int .i64 l12] 47 = A
  generalize hB : Obj.cells #[Value.int .i64 l0, .string l1, .int .i64 l2, .slice y3 n3 b3, .int .i64 l4, .slice y5 n5 b5, .int .i64 l6, .bool l7, .string l8, .int .i64 l9, .int .i64 l10, .int .i64 l11, .int .i64 l12] 47 = B
  have h0 : Below w.heap.size w ((w.alloc A).alloc B) := below_lit2 w A B
  refine (eqRow_rd _ _ (⟨l1, l2, l3, l4, l5, l6, l7⟩ : RowD) _ (rdRow_ok.below R1.out.1 h0) (rdRow_ok.below R1.out.2.1 h0) R1.out.2.2).mono ?_
  rintro e w1 ⟨rfl, hb⟩
  obtain ⟨k1, k2⟩ := laid2 w A B
  subst hA hB
  have K1 : Hd (w1.heap[w.heap.size]? = some (.cells #[Value.int .i64 l0, .string l1, .int .i64 l2, .slice x3 m3 d3, .int .i64 l4, .slice x5 m5 d5, .int .i64 l6, .bool l7, .string l8, .int .i64 l9, .int .i64 l10, .int .i64 l11, .int .i64 l12] 47 (0, 0))) := ⟨(hb.block _ (by simp; omega)).trans k1⟩
  have G1 : Hd (w1.heap[w.heap.size + 1]? = some (.cells #[Value.int .i64 l0, .string l1, .int .i64 l2, .slice y3 n3 b3, .int .i64 l4, .slice y5 n5 b5, .int .i64 l6, .bool l7, .string l8, .int .i64 l9, .int .i64 l10, .int .i64 l11, .int .i64 l12] 47 (0, 0))) := ⟨(hb.block _ (by simp)).trans k2⟩
  have B1 : Hd (Below w.heap.size w w1) := ⟨Below.next h0 hb⟩
  clear hb h0 k1 k2
  have u8 := cellsA K1.out 8 rfl
  have v8 := cellsA G1.out 8 rfl
  have u9 := cellsA K1.out 9 rfl
  have v9 := cellsA G1.out 9 rfl
  have u10 := cellsA K1.out 10 rfl
  have v10 := cellsA G1.out 10 rfl
  have u11 := cellsA K1.out 11 rfl
  have v11 := cellsA G1.out 11 rfl
  have u12 := cellsA K1.out 12 rfl
  have v12 := cellsA G1.out 12 rfl
  go_wp2_with fail
  go_ret
  exact ⟨rfl, B1.out⟩

set_option maxHeartbeats 4000000 in
theorem markRec_ow (cs : List Value) (F : Fp) (a : RecD) (m : Nat) (w : World) (h : OwRec w cs F a) (hs : m + cuRec a ≤ 1073741824) :
    Calls Tryd.prog 24 #[.agg cs.toArray, .int .i64 (m : Int)] w (MkOut OwRec cs F (mtRec m a) (m + cuRec a) w) := by
  obtain ⟨l0, ⟨l1, l2, l3, l4, l5, l6, l7⟩, l8, l9, l10, l11, l12⟩ := a
  simp only [OwRec] at h
  obtain ⟨x3, m3, d3, x5, m5, d5, F1, rfl, z8, r1, hU⟩ := h
  unfold cuRec mtRec
  unfold cuRec at hs
  dsimp only at hs ⊢
  have HU : Hd ((∀ x, F x ↔ F1 x)) := ⟨hU⟩
  have HS : Hd (m + (cuRow (⟨l1, l2, l3, l4, l5, l6, l7⟩ : RowD)) ≤ 1073741824) := ⟨hs⟩
  have Z8 : Hd (l8.size ≤ maxLen) := ⟨z8⟩
  have O1 : Hd (OwRow w [.string l1, .int .i64 l2, .slice x3 m3 d3, .int .i64 l4, .slice x5 m5 d5, .int .i64 l6, .bool l7] F1 (⟨l1, l2, l3, l4, l5, l6, l7⟩ : RowD)) := ⟨r1⟩
  clear hs r1 z8 hU
  go_enter Tryd.func24, Tryd.ntmps24
  go_wp2_with fail
  generalize hA : Obj.cells #[Value.int .i64 l0, .string l1, .int .i64 l2, .slice x3 m3 d3, .int .i64 l4, .slice x5 m5 d5, .int .i64 l6, .bool l7, .string l8, .int .i64 l9, .int .i64 l10, .int .i64 l11, .int .i64 l12] 47 = A
  have h0 : Below w.heap.size w (w.alloc A) := below_lit w A
  refine (markRow_ow _ F1 (⟨l1, l2, l3, l4, l5, l6, l7⟩ : RowD) (m) _ (owRow_ok.below O1.out h0) (by have := HS.out; omega)).mono ?_
  rintro e w1 ⟨rfl, hO, hC⟩
  have C1 : Hd (Chg w w1 F) := ⟨(Chg.of_below h0).trans (hC.mono (fun x hx => (HU.out x).2 hx))⟩
  have K1 : Hd (w1.heap[w.heap.size]? = some (.cells #[Value.int .i64 l0, .string l1, .int .i64 l2, .slice x3 m3 d3, .int .i64 l4, .slice x5 m5 d5, .int .i64 l6, .bool l7, .string l8, .int .i64 l9, .int .i64 l10, .int .i64 l11, .int .i64 l12] 47 (0, 0))) := ⟨by rw [hC.block w.heap.size (by simp) (fun hx => by have := owRow_ok.lt O1.out _ hx; omega), ← hA]; subst hA; exact heap_alloc_new w _⟩
  have O1_1 : Hd (OwRow w1 [.string l1, .int .i64 l2, .slice x3 m3 d3, .int .i64 l4, .slice x5 m5 d5, .int .i64 l6, .bool l7] F1 (mtRow (m) (⟨l1, l2, l3, l4, l5, l6, l7⟩ : RowD))) := ⟨hO⟩
  clear hO hC h0
  clear hA
  go_wp2_with fail
  go_ret
  exact ⟨congrArg (fun z : Nat => Ending.returned (Value.int IntKind.i64 (z : Int))) (by omega), ⟨x3, m3, d3, x5, m5, d5, F1, rfl, Z8.out, O1_1.out, HU.out⟩, C1.out⟩

end Go.Proofs.YtbeiocngiippgabDoor
