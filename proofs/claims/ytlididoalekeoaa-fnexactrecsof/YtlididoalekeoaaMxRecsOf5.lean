/- Parts of the proof, one behind the other. -/
import Derived.Test.YtlididoalekeoaaMxRecsOf4
import Derived.Test.YtlididoalekeoaaMxRecsOf1
/- What the laws do with a Cell. -/
namespace Go.Proofs.Ytlididoalekeoaa
set_option maxRecDepth 4000
open Go.RowKit

structure CellD where
  tag : Int
  b : List UInt8

def RdCell : Rd CellD := fun w cs a => ∃ (x1 : Option Addr) (m1 d1 : Nat), cs = [.int .i64 a.tag, .slice x1 m1 d1] ∧ RdB w [.slice x1 m1 d1] (a.b)
def RcCell : Rd CellD := fun w cs a => ∃ (x1 : Option Addr) (m1 d1 : Nat), cs = [.int .i64 a.tag, .slice x1 m1 d1] ∧ RdC w [.slice x1 m1 d1] (a.b)
def OwCell : Ow CellD := fun w cs F a => ∃ (x1 : Option Addr) (m1 d1 : Nat) (F1 : Fp), cs = [.int .i64 a.tag, .slice x1 m1 d1] ∧ OwC w [.slice x1 m1 d1] F1 (a.b) ∧ (∀ x, F x ↔ F1 x)
theorem rdCell_ok : RdOk 2 RdCell := ⟨fun ⟨_, _, _, e, _⟩ => by rw [e]; rfl, fun ⟨x1, m1, d1, e, r1⟩ hs => ⟨x1, m1, d1, e, rdB_ok.keep r1 hs⟩⟩
theorem rcCell_ok : RdOk 2 RcCell := ⟨fun ⟨_, _, _, e, _⟩ => by rw [e]; rfl, fun ⟨x1, m1, d1, e, r1⟩ hs => ⟨x1, m1, d1, e, rdC_ok.keep r1 hs⟩⟩
theorem rcCell_w {w : World} {cs : List Value} {a : CellD} (h : RcCell w cs a) : RdCell w cs a := by
  obtain ⟨x1, m1, d1, e, r1⟩ := h
  exact ⟨x1, m1, d1, e, rdC_w r1⟩
theorem owCell_ok : OwOk 2 OwCell RcCell where
  len := fun ⟨_, _, _, _, e, _⟩ => by rw [e]; rfl
  lt := fun {w _ F _} ⟨x1, m1, d1, F1, e, r1, hF⟩ x hx => by
    exact owC_ok.lt r1 x ((hF x).1 hx)
  keep := fun ⟨x1, m1, d1, F1, e, r1, hF⟩ hs => ⟨x1, m1, d1, F1, e, owC_ok.keep r1 (fun b hb => hs b ((hF b).2 hb)), hF⟩
  rd := fun ⟨x1, m1, d1, F1, e, r1, _⟩ => ⟨x1, m1, d1, e, owC_ok.rd r1⟩
theorem infoCell : (Try.prog.info? 82).map (·.size) = some 2 := by kernel_rfl
def wtCell (a : CellD) : Nat := wtB (a.b)
def ctCell (a : CellD) : Nat := 1 + ctB (a.b)
def mkCell (m : Nat) (a : CellD) : CellD := (⟨((m : Nat) : Int), mkB (m + 1) (a.b)⟩ : CellD)
def cuCell (a : CellD) : Nat := ctB (a.b)
def mtCell (m : Nat) (a : CellD) : CellD := (⟨a.tag, mkB (m) (a.b)⟩ : CellD)

set_option maxHeartbeats 4000000 in
theorem szCell_rd (cs : List Value) (a : CellD) (n : Int) (w : World) (h : RdCell w cs a) (hn : 0 ≤ n ∧ n ≤ 1048576) :
    Calls Try.prog 102 #[.agg cs.toArray, .int .i64 n] w (SzOut n (wtCell a) w) := by
  obtain ⟨l0, l1⟩ := a
  simp only [RdCell] at h
  obtain ⟨x1, m1, d1, rfl, r1⟩ := h
  unfold wtCell
  dsimp only
  have R1 : Hd (RdB w [.slice x1 m1 d1] l1) := ⟨r1⟩
  have N0 : Hd (0 ≤ n ∧ n ≤ n ∧ n ≤ 1048576 ∧ ((0 : Nat) : Int) + n ≤ n) := ⟨by omega⟩
  clear hn r1
  go_enter Try.func102, Try.ntmps102
  go_wp2_with fail
  refine (szByteS_rd x1 m1 d1 l1 (n) _ (rdB_ok.below R1.out (below_lit w _)) ⟨by have := N0.out; omega, by have := N0.out; omega⟩).mono ?_
  rintro e w1 ⟨⟨s1, rfl, hs1, hs2, hs3⟩, hb⟩
  have K1 : Hd (w1.heap[w.heap.size]? = some (.cells #[.int .i64 l0, .slice x1 m1 d1] 121 (0, 0))) := ⟨(hb.block _ (by simp)).trans (heap_alloc_new w _)⟩
  have B1 : Hd (Below w.heap.size w w1) := ⟨Below.next (below_lit w _) hb⟩
  have M1 : Hd (s1 ≤ n ∧ n ≤ 1048576 ∧ (0 ≤ s1 → ((wtB l1 : Nat) : Int) + s1 ≤ n)) := ⟨by have := N0.out; refine ⟨by omega, by omega, fun hh => ?_⟩; have := hs3 hh; omega⟩
  clear hs1 hs2 hs3 hb
  by_cases hz1 : s1 < 0
  · go_wp2_with fail
    go_ret
    exact ⟨⟨-1, rfl, by omega, by have := N0.out; omega, fun h => by omega⟩, B1.out⟩
  have N1 : Hd (0 ≤ s1 ∧ s1 ≤ n ∧ n ≤ 1048576 ∧ ((wtB l1 : Nat) : Int) + s1 ≤ n) := ⟨by have := M1.out; omega⟩
  go_wp2_with fail
  go_ret
  exact ⟨⟨s1, rfl, by have := N1.out; omega, by have := N1.out; omega, fun _ => N1.out.2.2.2⟩, B1.out⟩

set_option maxHeartbeats 4000000 in
theorem eqCell_rd (c1 c2 : List Value) (a : CellD) (w : World) (h1 : RdCell w c1 a) (h2 : RdCell w c2 a) (hw : wtCell a ≤ 1073741824) :
    Calls Try.prog 105 #[.agg c1.toArray, .agg c2.toArray] w fun e w' => e = .returned (.bool true) ∧ Below w.heap.size w w' := by
  obtain ⟨l0, l1⟩ := a
  simp only [RdCell] at h1 h2
  obtain ⟨x1, m1, d1, rfl, r1⟩ := h1
  obtain ⟨y1, n1, b1, rfl, t1⟩ := h2
  unfold wtCell at hw
  dsimp only at hw
  have R1 : Hd (RdB w [.slice x1 m1 d1] l1 ∧ RdB w [.slice y1 n1 b1] l1 ∧ wtB l1 ≤ 1073741824) := ⟨r1, t1, by omega⟩
  have f0 : (l0 != l0) = false := by simp
  clear hw r1 t1
  go_enter Try.func105, Try.ntmps105
  go_wp2_with fail
  generalize hA : Obj.cells #[Value.int .i64 l0, .slice x1 m1 d1] 82 = A
  generalize hB : Obj.cells #[Value.int .i64 l0, .slice y1 n1 b1] 82 = B
  have h0 : Below w.heap.size w ((w.alloc A).alloc B) := below_lit2 w A B
  refine (eqByteS_rd x1 m1 d1 y1 n1 b1 l1 _ (rdB_ok.below R1.out.1 h0) (rdB_ok.below R1.out.2.1 h0) R1.out.2.2).mono ?_
  rintro e w1 ⟨rfl, hb⟩
  obtain ⟨k1, k2⟩ := laid2 w A B
  subst hA hB
  have K1 : Hd (w1.heap[w.heap.size]? = some (.cells #[Value.int .i64 l0, .slice x1 m1 d1] 82 (0, 0))) := ⟨(hb.block _ (by simp; omega)).trans k1⟩
  have G1 : Hd (w1.heap[w.heap.size + 1]? = some (.cells #[Value.int .i64 l0, .slice y1 n1 b1] 82 (0, 0))) := ⟨(hb.block _ (by simp)).trans k2⟩
  have B1 : Hd (Below w.heap.size w w1) := ⟨Below.next h0 hb⟩
  clear hb h0 k1 k2
  go_wp2_with fail
  go_ret
  exact ⟨rfl, B1.out⟩

set_option maxHeartbeats 4000000 in
theorem toCell_rd (cs : List Value) (a : CellD) (w : World) (h : RdCell w cs a) (hw : wtCell a ≤ 1073741824) :
    Calls Try.prog 103 #[.agg cs.toArray] w (AnsAgg OwCell a w) := by
  obtain ⟨l0, l1⟩ := a
  simp only [RdCell] at h
  obtain ⟨x1, m1, d1, rfl, r1⟩ := h
  unfold wtCell at hw
  dsimp only at hw
  have R1 : Hd (RdB w [.slice x1 m1 d1] l1 ∧ wtB l1 ≤ 1073741824) := ⟨r1, by omega⟩
  clear hw r1
  go_enter Try.func103, Try.ntmps103
  go_wp2_with fail
  generalize hA : Obj.cells #[Value.int .i64 l0, .slice x1 m1 d1] 121 = A
  generalize hB : Obj.cells #[Value.int .i64 0, .slice none 0 0] 82 = B
  generalize hC : Obj.cells #[Value.int .i64 l0, .slice none 0 0] 82 = C
  have h3 : Below w.heap.size w (((w.alloc A).alloc B).alloc C) := below_lit3 w A B C
  refine (toByteS_oc x1 m1 d1 l1 _ (rdB_ok.below R1.out.1 h3) R1.out.2).mono ?_
  rintro e w1 ⟨⟨y1, n1, b1, rfl, F1, hE, hF⟩, hb⟩
  obtain ⟨k0, k1, k2⟩ := laid3 w A B C
  subst hA hB hC
  have A1 : Hd (w1.heap[w.heap.size]? = some (.cells #[Value.int .i64 l0, .slice x1 m1 d1] 121 (0, 0))) := ⟨(hb.block _ (by simp; omega)).trans k0⟩
  have Z1 : Hd (w1.heap[w.heap.size + 1]? = some (.cells #[Value.int .i64 0, .slice none 0 0] 82 (0, 0))) := ⟨(hb.block _ (by simp)).trans k1⟩
  have C1 : Hd (w1.heap[w.heap.size + 1 + 1]? = some (.cells #[Value.int .i64 l0, .slice none 0 0] 82 (0, 0))) := ⟨(hb.block _ (by simp)).trans k2⟩
  simp only [World.size_alloc] at hF
  have B1 : Hd (Below w.heap.size w w1) := ⟨Below.next h3 hb⟩
  have O1_1 : Hd (OwC w1 [.slice y1 n1 b1] F1 l1 ∧ ∀ x, F1 x → w.heap.size + 3 ≤ x ∧ x < w1.heap.size) := ⟨hE, fun x hx => ⟨by have := hF x hx; omega, owC_ok.lt hE x hx⟩⟩
  clear hE hF hb h3 k0 k1 k2
  have z1 := cellsA C1.out 1 rfl
  have g1 := freeA C1.out 1
  have CF : Hd ((w1.setCell ⟨w.heap.size + 1 + 1, 1, none⟩ (.slice y1 n1 b1)).heap[w.heap.size + 1 + 1]? = some (.cells (List.toArray [.int .i64 l0, .slice y1 n1 b1]) 82 (0, 0))) := ⟨setL (C1.out) 1 _ rfl⟩
  have ZF : Hd ((w1.setCell ⟨w.heap.size + 1 + 1, 1, none⟩ (.slice y1 n1 b1)).heap[w.heap.size + 1]? = some (.cells #[Value.int .i64 0, .slice none 0 0] 82 (0, 0))) := ⟨block_set (Z1.out) (by omega)⟩
  have hrg := rangeA CF.out
  have htz := thereA ZF.out 0 2 (by simp)
  have honz : Hd ((#[.int .i64 l0, .slice y1 n1 b1] : Array Value).all (·.oneCell') = true) := ⟨by simp [Value.oneCell']⟩
  obtain ⟨VF, hVF⟩ : ∃ V, (w1.setCell ⟨w.heap.size + 1 + 1, 1, none⟩ (.slice y1 n1 b1)).setCells (w.heap.size + 1) 0 [.int .i64 l0, .slice y1 n1 b1] = V := ⟨_, rfl⟩
  have HVF : Hd ((w1.setCell ⟨w.heap.size + 1 + 1, 1, none⟩ (.slice y1 n1 b1)).setCells (w.heap.size + 1) 0 [.int .i64 l0, .slice y1 n1 b1] = VF) := ⟨hVF⟩
  clear hVF
  have ZR : Hd (VF.heap[w.heap.size + 1]? = some (.cells #[.int .i64 l0, .slice y1 n1 b1] 82 (0, 0))) := ⟨by rw [← HVF.out]; exact setCells_lay ZF.out _ 0 (by simp) rfl⟩
  have BR : Hd (Below w.heap.size w VF) := ⟨by rw [← HVF.out]; exact bsetN (by omega) _ _ (bset (B1.out) _ (by omega))⟩
  have OR1 : Hd (OwC VF [.slice y1 n1 b1] F1 l1) := ⟨by rw [← HVF.out]; exact owC_ok.keep O1_1.out.1 (fun b hb => block_setN (block_set (rfl) (by have := (O1_1.out.2 b hb).1; omega)) _ _ (by have := (O1_1.out.2 b hb).1; omega))⟩
  have LO : Hd (∀ x, F1 x → w.heap.size ≤ x) := ⟨fun x hx => by
    have := (O1_1.out.2 x hx).1
    omega⟩
  clear A1 Z1 C1 B1 O1_1 CF ZF
  go_wp2_with (first | (show wpList _ _ _ (Oper.mk _ (Op.load 82 _) _ _ _ _ :: _) _ _; refine wpList_load_to 82 _ rfl rfl (w.heap.size + 1 + 1) 0 rfl [.int .i64 l0, .slice y1 n1 b1] hrg Try.underlying82 rfl infoCell ?_) | (show wpList _ _ _ (Oper.mk _ (Op.store 82 _ _) _ _ _ _ :: _) _ _; refine wpList_store_to 82 _ _ rfl rfl (w.heap.size + 1) 0 #[.int .i64 l0, .slice y1 n1 b1] rfl rfl htz infoCell honz.out HVF.out ?_))
  refine bodyPost_ret (results_cell_row rfl _ _ (w.heap.size + 1) _ _ (0, 0) _ rfl ZR.out Try.underlying82 rfl (by kernel_rfl)) rfl ?_
  exact ⟨⟨[.int .i64 l0, .slice y1 n1 b1], rfl, fun x => F1 x, ⟨y1, n1, b1, F1, rfl, OR1.out, fun x => Iff.rfl⟩, LO.out⟩, BR.out⟩

end Go.Proofs.Ytlididoalekeoaa
/- A row. -/
namespace Go.Proofs.Ytlididoalekeoaa
set_option maxRecDepth 4000
open Go.RowKit

/-- A row. -/
structure RowD where
  key : ByteArray
  t1 : Int
  b1 : List UInt8
  t2 : Int
  b2 : List UInt8
  has : Int
  aside : Bool
def zeroRow : RowD := ⟨⟨#[]⟩, 0, [], 0, [], 0, false⟩

end Go.Proofs.Ytlididoalekeoaa
/- What the laws do with a Row. -/
namespace Go.Proofs.Ytlididoalekeoaa
set_option maxRecDepth 4000
open Go.RowKit

def RdRow : Rd RowD := fun w cs a => ∃ (x2 : Option Addr) (m2 d2 : Nat) (x4 : Option Addr) (m4 d4 : Nat), cs = [.string a.key, .int .i64 a.t1, .slice x2 m2 d2, .int .i64 a.t2, .slice x4 m4 d4, .int .i64 a.has, .bool a.aside] ∧ a.key.size ≤ maxLen ∧ RdCell w [.int .i64 a.t1, .slice x2 m2 d2] ((⟨a.t1, a.b1⟩ : CellD)) ∧ RdCell w [.int .i64 a.t2, .slice x4 m4 d4] ((⟨a.t2, a.b2⟩ : CellD))
def RcRow : Rd RowD := fun w cs a => ∃ (x2 : Option Addr) (m2 d2 : Nat) (x4 : Option Addr) (m4 d4 : Nat), cs = [.string a.key, .int .i64 a.t1, .slice x2 m2 d2, .int .i64 a.t2, .slice x4 m4 d4, .int .i64 a.has, .bool a.aside] ∧ a.key.size ≤ maxLen ∧ RcCell w [.int .i64 a.t1, .slice x2 m2 d2] ((⟨a.t1, a.b1⟩ : CellD)) ∧ RcCell w [.int .i64 a.t2, .slice x4 m4 d4] ((⟨a.t2, a.b2⟩ : CellD))
def OwRow : Ow RowD := fun w cs F a => ∃ (x2 : Option Addr) (m2 d2 : Nat) (x4 : Option Addr) (m4 d4 : Nat) (F1 : Fp) (F3 : Fp), cs = [.string a.key, .int .i64 a.t1, .slice x2 m2 d2, .int .i64 a.t2, .slice x4 m4 d4, .int .i64 a.has, .bool a.aside] ∧ a.key.size ≤ maxLen ∧ OwCell w [.int .i64 a.t1, .slice x2 m2 d2] F1 ((⟨a.t1, a.b1⟩ : CellD)) ∧ OwCell w [.int .i64 a.t2, .slice x4 m4 d4] F3 ((⟨a.t2, a.b2⟩ : CellD)) ∧ (∀ x, F1 x → ¬ F3 x) ∧ (∀ x, F x ↔ F1 x ∨ F3 x)
theorem rdRow_ok : RdOk 7 RdRow := ⟨fun ⟨_, _, _, _, _, _, e, _⟩ => by rw [e]; rfl, fun ⟨x2, m2, d2, x4, m4, d4, e, z0, r1, r3⟩ hs => ⟨x2, m2, d2, x4, m4, d4, e, z0, rdCell_ok.keep r1 hs, rdCell_ok.keep r3 hs⟩⟩
theorem rcRow_ok : RdOk 7 RcRow := ⟨fun ⟨_, _, _, _, _, _, e, _⟩ => by rw [e]; rfl, fun ⟨x2, m2, d2, x4, m4, d4, e, z0, r1, r3⟩ hs => ⟨x2, m2, d2, x4, m4, d4, e, z0, rcCell_ok.keep r1 hs, rcCell_ok.keep r3 hs⟩⟩
theorem rcRow_w {w : World} {cs : List Value} {a : RowD} (h : RcRow w cs a) : RdRow w cs a := by
  obtain ⟨x2, m2, d2, x4, m4, d4, e, z0, r1, r3⟩ := h
  exact ⟨x2, m2, d2, x4, m4, d4, e, z0, rcCell_w r1, rcCell_w r3⟩
theorem owRow_ok : OwOk 7 OwRow RcRow where
  len := fun ⟨_, _, _, _, _, _, _, _, e, _⟩ => by rw [e]; rfl
  lt := fun {w _ F _} ⟨x2, m2, d2, x4, m4, d4, F1, F3, e, _, r1, r3, _, hF⟩ x hx => by
    rcases (hF x).1 hx with hx | hx
    · exact owCell_ok.lt r1 x hx
    · exact owCell_ok.lt r3 x hx
  keep := fun ⟨x2, m2, d2, x4, m4, d4, F1, F3, e, z0, r1, r3, e0, hF⟩ hs => ⟨x2, m2, d2, x4, m4, d4, F1, F3, e, z0, owCell_ok.keep r1 (fun b hb => hs b ((hF b).2 (.inl hb))), owCell_ok.keep r3 (fun b hb => hs b ((hF b).2 (.inr (hb)))), e0, hF⟩
  rd := fun ⟨x2, m2, d2, x4, m4, d4, F1, F3, e, z0, r1, r3, _, _⟩ => ⟨x2, m2, d2, x4, m4, d4, e, z0, owCell_ok.rd r1, owCell_ok.rd r3⟩
theorem infoRow : (Try.prog.info? 84).map (·.size) = some 7 := by kernel_rfl
def wtRow (a : RowD) : Nat := a.key.size + wtCell ((⟨a.t1, a.b1⟩ : CellD)) + wtCell ((⟨a.t2, a.b2⟩ : CellD))
def ctRow (a : RowD) : Nat := 1 + 1 + ctB (a.b1) + 1 + ctB (a.b2) + 1 + 1
def cuRow (a : RowD) : Nat := cuCell ((⟨a.t1, a.b1⟩ : CellD)) + cuCell ((⟨a.t2, a.b2⟩ : CellD))
def mtRow (m : Nat) (a : RowD) : RowD := (⟨a.key, a.t1, mkB (m) (a.b1), a.t2, mkB (m + ctB (a.b1)) (a.b2), a.has, a.aside⟩ : RowD)

set_option maxHeartbeats 4000000 in
theorem szRow_rd (cs : List Value) (a : RowD) (n : Int) (w : World) (h : RdRow w cs a) (hn : 0 ≤ n ∧ n ≤ 1048576) :
    Calls Try.prog 92 #[.agg cs.toArray, .int .i64 n] w (SzOut n (wtRow a) w) := by
  obtain ⟨l0, l1, l2, l3, l4, l5, l6⟩ := a
  simp only [RdRow] at h
  obtain ⟨x2, m2, d2, x4, m4, d4, rfl, z0, r1, r3⟩ := h
  unfold wtRow
  dsimp only
  have R1 : Hd (RdCell w [.int .i64 l1, .slice x2 m2 d2] (⟨l1, l2⟩ : CellD)) := ⟨r1⟩
  have R3 : Hd (RdCell w [.int .i64 l3, .slice x4 m4 d4] (⟨l3, l4⟩ : CellD)) := ⟨r3⟩
  have Z0 : Hd (l0.size ≤ maxLen) := ⟨z0⟩
  have N0 : Hd (0 ≤ n ∧ n ≤ n ∧ n ≤ 1048576 ∧ ((0 : Nat) : Int) + n ≤ n) := ⟨by omega⟩
  clear hn r1 r3 z0
  go_enter Try.func92, Try.ntmps92
  have hw0 : wrap64 (n - (l0.size : Int)) = n - (l0.size : Int) := by have h1 := Z0.out; have h2 := N0.out; unfold maxLen at h1; exact wrap64_in (by omega) (by omega)
  by_cases hq0 : n - (l0.size : Int) < 0
  · go_wp2_with fail
    go_ret
    exact ⟨⟨-1, rfl, by omega, by have := N0.out; omega, fun h => by omega⟩, (below_lit w _)⟩
  have N1 : Hd (0 ≤ n - (l0.size : Int) ∧ n - (l0.size : Int) ≤ n ∧ n ≤ 1048576 ∧ ((l0.size : Nat) : Int) + (n - (l0.size : Int)) ≤ n) := ⟨by have := N0.out; omega⟩
  go_wp2_with fail
  clear hw0 hq0
  refine (szCell_rd _ (⟨l1, l2⟩ : CellD) (n - (l0.size : Int)) _ (rdCell_ok.below R1.out (below_lit w _)) ⟨by have := N1.out; omega, by have := N1.out; omega⟩).mono ?_
  rintro e w1 ⟨⟨s1, rfl, hs1, hs2, hs3⟩, hb⟩
  have K1 : Hd (w1.heap[w.heap.size]? = some (.cells #[.string l0, .int .i64 l1, .slice x2 m2 d2, .int .i64 l3, .slice x4 m4 d4, .int .i64 l5, .bool l6] 123 (0, 0))) := ⟨(hb.block _ (by simp)).trans (heap_alloc_new w _)⟩
  have B1 : Hd (Below w.heap.size w w1) := ⟨Below.next (below_lit w _) hb⟩
  have M1 : Hd (s1 ≤ n ∧ n ≤ 1048576 ∧ (0 ≤ s1 → ((l0.size + wtCell (⟨l1, l2⟩ : CellD) : Nat) : Int) + s1 ≤ n)) := ⟨by have := N1.out; refine ⟨by omega, by omega, fun hh => ?_⟩; have := hs3 hh; omega⟩
  clear hs1 hs2 hs3 hb
  by_cases hz1 : s1 < 0
  · go_wp2_with fail
    go_ret
    exact ⟨⟨-1, rfl, by omega, by have := N0.out; omega, fun h => by omega⟩, B1.out⟩
  have N2 : Hd (0 ≤ s1 ∧ s1 ≤ n ∧ n ≤ 1048576 ∧ ((l0.size + wtCell (⟨l1, l2⟩ : CellD) : Nat) : Int) + s1 ≤ n) := ⟨by have := M1.out; omega⟩
  have c3 := cellsA K1.out 3 rfl
  have c4 := cellsA K1.out 4 rfl
  go_wp2_with fail
  clear hz1
  clear c3 c4
  refine (szCell_rd _ (⟨l3, l4⟩ : CellD) (s1) _ (rdCell_ok.below R3.out B1.out) ⟨by have := N2.out; omega, by have := N2.out; omega⟩).mono ?_
  rintro e w2 ⟨⟨s2, rfl, hs1, hs2, hs3⟩, hb⟩
  have K2 : Hd (w2.heap[w.heap.size]? = some (.cells #[.string l0, .int .i64 l1, .slice x2 m2 d2, .int .i64 l3, .slice x4 m4 d4, .int .i64 l5, .bool l6] 123 (0, 0))) := ⟨(hb.block _ (lt_of_block K1.out)).trans K1.out⟩
  have B2 : Hd (Below w.heap.size w w2) := ⟨Below.next B1.out hb⟩
  have M2 : Hd (s2 ≤ n ∧ n ≤ 1048576 ∧ (0 ≤ s2 → ((l0.size + wtCell (⟨l1, l2⟩ : CellD) + wtCell (⟨l3, l4⟩ : CellD) : Nat) : Int) + s2 ≤ n)) := ⟨by have := N2.out; refine ⟨by omega, by omega, fun hh => ?_⟩; have := hs3 hh; omega⟩
  clear hs1 hs2 hs3 hb
  by_cases hz2 : s2 < 0
  · go_wp2_with fail
    go_ret
    exact ⟨⟨-1, rfl, by omega, by have := N0.out; omega, fun h => by omega⟩, B2.out⟩
  have N3 : Hd (0 ≤ s2 ∧ s2 ≤ n ∧ n ≤ 1048576 ∧ ((l0.size + wtCell (⟨l1, l2⟩ : CellD) + wtCell (⟨l3, l4⟩ : CellD) : Nat) : Int) + s2 ≤ n) := ⟨by have := M2.out; omega⟩
  go_wp2_with fail
  go_ret
  exact ⟨⟨s2, rfl, by have := N3.out; omega, by have := N3.out; omega, fun _ => N3.out.2.2.2⟩, B2.out⟩

set_option maxHeartbeats 4000000 in
theorem eqRow_rd (c1 c2 : List Value) (a : RowD) (w : World) (h1 : RdRow w c1 a) (h2 : RdRow w c2 a) (hw : wtRow a ≤ 1073741824) :
    Calls Try.prog 98 #[.agg c1.toArray, .agg c2.toArray] w fun e w' => e = .returned (.bool true) ∧ Below w.heap.size w w' := by
  obtain ⟨l0, l1, l2, l3, l4, l5, l6⟩ := a
  simp only [RdRow] at h1 h2
  obtain ⟨x2, m2, d2, x4, m4, d4, rfl, _, r1, r3⟩ := h1
  obtain ⟨y2, n2, b2, y4, n4, b4, rfl, _, t1, t3⟩ := h2
  unfold wtRow at hw
  dsimp only at hw
  have R1 : Hd (RdCell w [.int .i64 l1, .slice x2 m2 d2] (⟨l1, l2⟩ : CellD) ∧ RdCell w [.int .i64 l1, .slice y2 n2 b2] (⟨l1, l2⟩ : CellD) ∧ wtCell (⟨l1, l2⟩ : CellD) ≤ 1073741824) := ⟨r1, t1, by omega⟩
  have R3 : Hd (RdCell w [.int .i64 l3, .slice x4 m4 d4] (⟨l3, l4⟩ : CellD) ∧ RdCell w [.int .i64 l3, .slice y4 n4 b4] (⟨l3, l4⟩ : CellD) ∧ wtCell (⟨l3, l4⟩ : CellD) ≤ 1073741824) := ⟨r3, t3, by omega⟩
  have f0 : (l0.toList != l0.toList) = false := by simp
  have f5 : (l5 != l5) = false := by simp
  have f6 : (l6 != l6) = false := by simp
  clear hw r1 t1 r3 t3
  go_enter Try.func98, Try.ntmps98
  go_wp2_with fail
  generalize hA : Obj.cells #[Value.string l0, .int .i64 l1, .slice x2 m2 d2, .int .i64 l3, .slice x4 m4 d4, .int .i64 l5, .bool l6] 84 = A
  generalize hB : Obj.cells #[Value.string l0, .int .i64 l1, .slice y2 n2 b2, .int .i64 l3, .slice y4 n4 b4, .int .i64 l5, .bool l6] 84 = B
  have h0 : Below w.heap.size w ((w.alloc A).alloc B) := below_lit2 w A B
  refine (eqCell_rd _ _ (⟨l1, l2⟩ : CellD) _ (rdCell_ok.below R1.out.1 h0) (rdCell_ok.below R1.out.2.1 h0) R1.out.2.2).mono ?_
  rintro e w1 ⟨rfl, hb⟩
  obtain ⟨k1, k2⟩ := laid2 w A B
  subst hA hB
  have K1 : Hd (w1.heap[w.heap.size]? = some (.cells #[Value.string l0, .int .i64 l1, .slice x2 m2 d2, .int .i64 l3, .slice x4 m4 d4, .int .i64 l5, .bool l6] 84 (0, 0))) := ⟨(hb.block _ (by simp; omega)).trans k1⟩
  have G1 : Hd (w1.heap[w.heap.size + 1]? = some (.cells #[Value.string l0, .int .i64 l1, .slice y2 n2 b2, .int .i64 l3, .slice y4 n4 b4, .int .i64 l5, .bool l6] 84 (0, 0))) := ⟨(hb.block _ (by simp)).trans k2⟩
  have B1 : Hd (Below w.heap.size w w1) := ⟨Below.next h0 hb⟩
  clear hb h0 k1 k2
  have u3 := cellsA K1.out 3 rfl
  have v3 := cellsA G1.out 3 rfl
  have u4 := cellsA K1.out 4 rfl
  have v4 := cellsA G1.out 4 rfl
  go_wp2_with fail
  clear u3 v3 u4 v4
  refine (eqCell_rd _ _ (⟨l3, l4⟩ : CellD) _ (rdCell_ok.below R3.out.1 B1.out) (rdCell_ok.below R3.out.2.1 B1.out) R3.out.2.2).mono ?_
  rintro e w2 ⟨rfl, hb⟩
  have K2 : Hd (w2.heap[w.heap.size]? = some (.cells #[Value.string l0, .int .i64 l1, .slice x2 m2 d2, .int .i64 l3, .slice x4 m4 d4, .int .i64 l5, .bool l6] 84 (0, 0))) := ⟨(hb.block _ (lt_of_block K1.out)).trans K1.out⟩
  have G2 : Hd (w2.heap[w.heap.size + 1]? = some (.cells #[Value.string l0, .int .i64 l1, .slice y2 n2 b2, .int .i64 l3, .slice y4 n4 b4, .int .i64 l5, .bool l6] 84 (0, 0))) := ⟨(hb.block _ (lt_of_block G1.out)).trans G1.out⟩
  have B2 : Hd (Below w.heap.size w w2) := ⟨Below.next B1.out hb⟩
  clear hb
  have u5 := cellsA K2.out 5 rfl
  have v5 := cellsA G2.out 5 rfl
  have u6 := cellsA K2.out 6 rfl
  have v6 := cellsA G2.out 6 rfl
  go_wp2_with fail
  go_ret
  exact ⟨rfl, B2.out⟩

set_option maxHeartbeats 4000000 in
theorem toRow_rd (cs : List Value) (a : RowD) (w : World) (h : RdRow w cs a) (hw : wtRow a ≤ 1073741824) :
    Calls Try.prog 94 #[.agg cs.toArray] w (AnsAgg OwRow a w) := by
  obtain ⟨l0, l1, l2, l3, l4, l5, l6⟩ := a
  simp only [RdRow] at h
  obtain ⟨x2, m2, d2, x4, m4, d4, rfl, z0, r1, r3⟩ := h
  unfold wtRow at hw
  dsimp only at hw
  have R1 : Hd (RdCell w [.int .i64 l1, .slice x2 m2 d2] (⟨l1, l2⟩ : CellD) ∧ wtCell (⟨l1, l2⟩ : CellD) ≤ 1073741824) := ⟨r1, by omega⟩
  have R3 : Hd (RdCell w [.int .i64 l3, .slice x4 m4 d4] (⟨l3, l4⟩ : CellD) ∧ wtCell (⟨l3, l4⟩ : CellD) ≤ 1073741824) := ⟨r3, by omega⟩
  have Z0 : Hd (l0.size ≤ maxLen) := ⟨z0⟩
  clear hw r1 r3 z0
  go_enter Try.func94, Try.ntmps94
  go_wp2_with fail
  generalize hA : Obj.cells #[Value.string l0, .int .i64 l1, .slice x2 m2 d2, .int .i64 l3, .slice x4 m4 d4, .int .i64 l5, .bool l6] 123 = A
  generalize hB : Obj.cells #[Value.string ⟨#[]⟩, .int .i64 0, .slice none 0 0, .int .i64 0, .slice none 0 0, .int .i64 0, .bool false] 84 = B
  generalize hC : Obj.cells #[Value.string l0, .int .i64 0, .slice none 0 0, .int .i64 0, .slice none 0 0, .int .i64 0, .bool false] 84 = C
  have h3 : Below w.heap.size w (((w.alloc A).alloc B).alloc C) := below_lit3 w A B C
  refine (toCell_rd _ (⟨l1, l2⟩ : CellD) _ (rdCell_ok.below R1.out.1 h3) R1.out.2).mono ?_
  rintro e w1 ⟨⟨csr, rfl, F1, hE, hF⟩, hb⟩
  have hE0 := hE
  simp only [OwCell] at hE0
  obtain ⟨y2, n2, b2, _, rfl, _⟩ := hE0
  obtain ⟨k0, k1, k2⟩ := laid3 w A B C
  subst hA hB hC
  have A1 : Hd (w1.heap[w.heap.size]? = some (.cells #[Value.string l0, .int .i64 l1, .slice x2 m2 d2, .int .i64 l3, .slice x4 m4 d4, .int .i64 l5, .bool l6] 123 (0, 0))) := ⟨(hb.block _ (by simp; omega)).trans k0⟩
  have Z1 : Hd (w1.heap[w.heap.size + 1]? = some (.cells #[Value.string ⟨#[]⟩, .int .i64 0, .slice none 0 0, .int .i64 0, .slice none 0 0, .int .i64 0, .bool false] 84 (0, 0))) := ⟨(hb.block _ (by simp)).trans k1⟩
  have C1 : Hd (w1.heap[w.heap.size + 1 + 1]? = some (.cells #[Value.string l0, .int .i64 0, .slice none 0 0, .int .i64 0, .slice none 0 0, .int .i64 0, .bool false] 84 (0, 0))) := ⟨(hb.block _ (by simp)).trans k2⟩
  simp only [World.size_alloc] at hF
  have B1 : Hd (Below w.heap.size w w1) := ⟨Below.next h3 hb⟩
  have O1_1 : Hd (OwCell w1 [.int .i64 l1, .slice y2 n2 b2] F1 (⟨l1, l2⟩ : CellD) ∧ ∀ x, F1 x → w.heap.size + 3 ≤ x ∧ x < w1.heap.size) := ⟨hE, fun x hx => ⟨by have := hF x hx; omega, owCell_ok.lt hE x hx⟩⟩
  clear hE hF hb h3 k0 k1 k2
  have hth1 := thereA C1.out 1 2 (by simp)
  have hon1 : Hd ((#[.int .i64 l1, .slice y2 n2 b2] : Array Value).all (·.oneCell') = true) := ⟨by simp [Value.oneCell']⟩
  obtain ⟨V1, hV1⟩ : ∃ V, w1.setCells (w.heap.size + 1 + 1) 1 [.int .i64 l1, .slice y2 n2 b2] = V := ⟨_, rfl⟩
  have HV1 : Hd (w1.setCells (w.heap.size + 1 + 1) 1 [.int .i64 l1, .slice y2 n2 b2] = V1) := ⟨hV1⟩
  clear hV1
  have A1s : Hd (V1.heap[w.heap.size]? = some (.cells #[Value.string l0, .int .i64 l1, .slice x2 m2 d2, .int .i64 l3, .slice x4 m4 d4, .int .i64 l5, .bool l6] 123 (0, 0))) := ⟨by rw [← HV1.out]; exact block_setN A1.out _ _ (by omega)⟩
  have Z1s : Hd (V1.heap[w.heap.size + 1]? = some (.cells #[Value.string ⟨#[]⟩, .int .i64 0, .slice none 0 0, .int .i64 0, .slice none 0 0, .int .i64 0, .bool false] 84 (0, 0))) := ⟨by rw [← HV1.out]; exact block_setN Z1.out _ _ (by omega)⟩
  have C1s : Hd (V1.heap[w.heap.size + 1 + 1]? = some (.cells #[Value.string l0, .int .i64 l1, .slice y2 n2 b2, .int .i64 0, .slice none 0 0, .int .i64 0, .bool false] 84 (0, 0))) := ⟨by rw [← HV1.out]; exact setCells_lay C1.out _ 1 (by simp) rfl⟩
  have B1s : Hd (Below w.heap.size w V1) := ⟨by rw [← HV1.out]; exact bsetN (by omega) _ _ B1.out⟩
  have O1_1s : Hd (OwCell V1 [.int .i64 l1, .slice y2 n2 b2] F1 (⟨l1, l2⟩ : CellD) ∧ ∀ x, F1 x → w.heap.size + 3 ≤ x ∧ x < V1.heap.size) := ⟨by rw [← HV1.out]; exact ⟨owCell_ok.keep O1_1.out.1 (fun b hb => block_setN rfl _ _ (by have := (O1_1.out.2 b hb).1; omega)), fun x hx => ⟨(O1_1.out.2 x hx).1, by rw [setCells_size]; exact (O1_1.out.2 x hx).2⟩⟩⟩
  clear A1 Z1 C1 B1 O1_1
  have c3 := cellsA (show V1.heap[w.heap.size]? = some (.cells #[Value.string l0, .int .i64 l1, .slice x2 m2 d2, .int .i64 l3, .slice x4 m4 d4, .int .i64 l5, .bool l6] 123 (0, 0)) from A1s.out) 3 rfl
  have c4 := cellsA (show V1.heap[w.heap.size]? = some (.cells #[Value.string l0, .int .i64 l1, .slice x2 m2 d2, .int .i64 l3, .slice x4 m4 d4, .int .i64 l5, .bool l6] 123 (0, 0)) from A1s.out) 4 rfl
  have A2 : Hd (V1.heap[w.heap.size]? = some (.cells #[Value.string l0, .int .i64 l1, .slice x2 m2 d2, .int .i64 l3, .slice x4 m4 d4, .int .i64 l5, .bool l6] 123 (0, 0))) := ⟨A1s.out⟩
  have Z2 : Hd (V1.heap[w.heap.size + 1]? = some (.cells #[Value.string ⟨#[]⟩, .int .i64 0, .slice none 0 0, .int .i64 0, .slice none 0 0, .int .i64 0, .bool false] 84 (0, 0))) := ⟨Z1s.out⟩
  have C2 : Hd (V1.heap[w.heap.size + 1 + 1]? = some (.cells #[Value.string l0, .int .i64 l1, .slice y2 n2 b2, .int .i64 0, .slice none 0 0, .int .i64 0, .bool false] 84 (0, 0))) := ⟨C1s.out⟩
  have B2 : Hd (Below w.heap.size w V1) := ⟨B1s.out⟩
  have O1_2 : Hd (OwCell V1 [.int .i64 l1, .slice y2 n2 b2] F1 (⟨l1, l2⟩ : CellD) ∧ ∀ x, F1 x → w.heap.size + 3 ≤ x ∧ x < V1.heap.size) := ⟨owCell_ok.keep O1_1s.out.1 (fun b hb => rfl), fun x hx => ⟨(O1_1s.out.2 x hx).1, by exact (O1_1s.out.2 x hx).2⟩⟩
  go_wp2_with (first | (show wpList _ _ _ (Oper.mk _ (Op.store 82 _ _) _ _ _ _ :: _) _ _; refine wpList_store_to 82 _ _ rfl rfl (w.heap.size + 1 + 1) 1 #[.int .i64 l1, .slice y2 n2 b2] rfl rfl hth1 infoCell hon1.out HV1.out ?_))
  clear A1s Z1s C1s B1s O1_1s c3 c4 hth1 hon1 HV1
  generalize V1 = w2 at *
  refine (toCell_rd _ (⟨l3, l4⟩ : CellD) _ (rdCell_ok.below R3.out.1 B2.out) R3.out.2).mono ?_
  rintro e w3 ⟨⟨csr, rfl, F3, hE, hF⟩, hb⟩
  have hE0 := hE
  simp only [OwCell] at hE0
  obtain ⟨y4, n4, b4, _, rfl, _⟩ := hE0
  have A3 : Hd (w3.heap[w.heap.size]? = some (.cells #[Value.string l0, .int .i64 l1, .slice x2 m2 d2, .int .i64 l3, .slice x4 m4 d4, .int .i64 l5, .bool l6] 123 (0, 0))) := ⟨(hb.block _ (lt_of_block A2.out)).trans A2.out⟩
  have Z3 : Hd (w3.heap[w.heap.size + 1]? = some (.cells #[Value.string ⟨#[]⟩, .int .i64 0, .slice none 0 0, .int .i64 0, .slice none 0 0, .int .i64 0, .bool false] 84 (0, 0))) := ⟨(hb.block _ (lt_of_block Z2.out)).trans Z2.out⟩
  have C3 : Hd (w3.heap[w.heap.size + 1 + 1]? = some (.cells #[Value.string l0, .int .i64 l1, .slice y2 n2 b2, .int .i64 0, .slice none 0 0, .int .i64 0, .bool false] 84 (0, 0))) := ⟨(hb.block _ (lt_of_block C2.out)).trans C2.out⟩
  have B3 : Hd (Below w.heap.size w w3) := ⟨Below.next B2.out hb⟩
  have O1_3 : Hd (OwCell w3 [.int .i64 l1, .slice y2 n2 b2] F1 (⟨l1, l2⟩ : CellD) ∧ ∀ x, F1 x → w.heap.size + 3 ≤ x ∧ x < w3.heap.size) := ⟨owCell_ok.below O1_2.out.1 hb, fun x hx => ⟨(O1_2.out.2 x hx).1, by have := (O1_2.out.2 x hx).2; have := hb.size; omega⟩⟩
  have O3_3 : Hd (OwCell w3 [.int .i64 l3, .slice y4 n4 b4] F3 (⟨l3, l4⟩ : CellD) ∧ ∀ x, F3 x → w.heap.size + 3 ≤ x ∧ x < w3.heap.size) := ⟨hE, fun x hx => ⟨by have := hF x hx; have := lt_of_block C2.out; omega, owCell_ok.lt hE x hx⟩⟩
  have X1_3 : Hd (∀ x, F1 x → ¬ F3 x) := ⟨fun x hx hy => by have := (O1_2.out.2 x hx).2; have := hF x hy; omega⟩
  clear hE hF hb A2 Z2 C2 B2 O1_2
  have hth3 := thereA C3.out 3 2 (by simp)
  have hon3 : Hd ((#[.int .i64 l3, .slice y4 n4 b4] : Array Value).all (·.oneCell') = true) := ⟨by simp [Value.oneCell']⟩
  obtain ⟨V3, hV3⟩ : ∃ V, w3.setCells (w.heap.size + 1 + 1) 3 [.int .i64 l3, .slice y4 n4 b4] = V := ⟨_, rfl⟩
  have HV3 : Hd (w3.setCells (w.heap.size + 1 + 1) 3 [.int .i64 l3, .slice y4 n4 b4] = V3) := ⟨hV3⟩
  clear hV3
  have A3s : Hd (V3.heap[w.heap.size]? = some (.cells #[Value.string l0, .int .i64 l1, .slice x2 m2 d2, .int .i64 l3, .slice x4 m4 d4, .int .i64 l5, .bool l6] 123 (0, 0))) := ⟨by rw [← HV3.out]; exact block_setN A3.out _ _ (by omega)⟩
  have Z3s : Hd (V3.heap[w.heap.size + 1]? = some (.cells #[Value.string ⟨#[]⟩, .int .i64 0, .slice none 0 0, .int .i64 0, .slice none 0 0, .int .i64 0, .bool false] 84 (0, 0))) := ⟨by rw [← HV3.out]; exact block_setN Z3.out _ _ (by omega)⟩
  have C3s : Hd (V3.heap[w.heap.size + 1 + 1]? = some (.cells #[Value.string l0, .int .i64 l1, .slice y2 n2 b2, .int .i64 l3, .slice y4 n4 b4, .int .i64 0, .bool false] 84 (0, 0))) := ⟨by rw [← HV3.out]; exact setCells_lay C3.out _ 3 (by simp) rfl⟩
  have B3s : Hd (Below w.heap.size w V3) := ⟨by rw [← HV3.out]; exact bsetN (by omega) _ _ B3.out⟩
  have O1_3s : Hd (OwCell V3 [.int .i64 l1, .slice y2 n2 b2] F1 (⟨l1, l2⟩ : CellD) ∧ ∀ x, F1 x → w.heap.size + 3 ≤ x ∧ x < V3.heap.size) := ⟨by rw [← HV3.out]; exact ⟨owCell_ok.keep O1_3.out.1 (fun b hb => block_setN rfl _ _ (by have := (O1_3.out.2 b hb).1; omega)), fun x hx => ⟨(O1_3.out.2 x hx).1, by rw [setCells_size]; exact (O1_3.out.2 x hx).2⟩⟩⟩
  have O3_3s : Hd (OwCell V3 [.int .i64 l3, .slice y4 n4 b4] F3 (⟨l3, l4⟩ : CellD) ∧ ∀ x, F3 x → w.heap.size + 3 ≤ x ∧ x < V3.heap.size) := ⟨by rw [← HV3.out]; exact ⟨owCell_ok.keep O3_3.out.1 (fun b hb => block_setN rfl _ _ (by have := (O3_3.out.2 b hb).1; omega)), fun x hx => ⟨(O3_3.out.2 x hx).1, by rw [setCells_size]; exact (O3_3.out.2 x hx).2⟩⟩⟩
  clear A3 Z3 C3 B3 O1_3 O3_3
  have z5 := cellsA C3s.out 5 rfl
  have g5 := freeA C3s.out 5
  have c5 := cellsA A3s.out 5 rfl
  have z6 := cellsA C3s.out 6 rfl
  have g6 := freeA C3s.out 6
  have c6 := cellsA A3s.out 6 rfl
  have CF : Hd (((V3.setCell ⟨w.heap.size + 1 + 1, 5, none⟩ (.int .i64 l5)).setCell ⟨w.heap.size + 1 + 1, 6, none⟩ (.bool l6)).heap[w.heap.size + 1 + 1]? = some (.cells (List.toArray [.string l0, .int .i64 l1, .slice y2 n2 b2, .int .i64 l3, .slice y4 n4 b4, .int .i64 l5, .bool l6]) 84 (0, 0))) := ⟨setL (setL (C3s.out) 5 _ rfl) 6 _ rfl⟩
  have ZF : Hd (((V3.setCell ⟨w.heap.size + 1 + 1, 5, none⟩ (.int .i64 l5)).setCell ⟨w.heap.size + 1 + 1, 6, none⟩ (.bool l6)).heap[w.heap.size + 1]? = some (.cells #[Value.string ⟨#[]⟩, .int .i64 0, .slice none 0 0, .int .i64 0, .slice none 0 0, .int .i64 0, .bool false] 84 (0, 0))) := ⟨block_set (block_set (Z3s.out) (by omega)) (by omega)⟩
  have hrg := rangeA CF.out
  have htz := thereA ZF.out 0 7 (by simp)
  have honz : Hd ((#[.string l0, .int .i64 l1, .slice y2 n2 b2, .int .i64 l3, .slice y4 n4 b4, .int .i64 l5, .bool l6] : Array Value).all (·.oneCell') = true) := ⟨by simp [Value.oneCell']⟩
  obtain ⟨VF, hVF⟩ : ∃ V, ((V3.setCell ⟨w.heap.size + 1 + 1, 5, none⟩ (.int .i64 l5)).setCell ⟨w.heap.size + 1 + 1, 6, none⟩ (.bool l6)).setCells (w.heap.size + 1) 0 [.string l0, .int .i64 l1, .slice y2 n2 b2, .int .i64 l3, .slice y4 n4 b4, .int .i64 l5, .bool l6] = V := ⟨_, rfl⟩
  have HVF : Hd (((V3.setCell ⟨w.heap.size + 1 + 1, 5, none⟩ (.int .i64 l5)).setCell ⟨w.heap.size + 1 + 1, 6, none⟩ (.bool l6)).setCells (w.heap.size + 1) 0 [.string l0, .int .i64 l1, .slice y2 n2 b2, .int .i64 l3, .slice y4 n4 b4, .int .i64 l5, .bool l6] = VF) := ⟨hVF⟩
  clear hVF
  have ZR : Hd (VF.heap[w.heap.size + 1]? = some (.cells #[.string l0, .int .i64 l1, .slice y2 n2 b2, .int .i64 l3, .slice y4 n4 b4, .int .i64 l5, .bool l6] 84 (0, 0))) := ⟨by rw [← HVF.out]; exact setCells_lay ZF.out _ 0 (by simp) rfl⟩
  have BR : Hd (Below w.heap.size w VF) := ⟨by rw [← HVF.out]; exact bsetN (by omega) _ _ (bset (bset (B3s.out) _ (by omega)) _ (by omega))⟩
  have OR1 : Hd (OwCell VF [.int .i64 l1, .slice y2 n2 b2] F1 (⟨l1, l2⟩ : CellD)) := ⟨by rw [← HVF.out]; exact owCell_ok.keep O1_3s.out.1 (fun b hb => block_setN (block_set (block_set (rfl) (by have := (O1_3s.out.2 b hb).1; omega)) (by have := (O1_3s.out.2 b hb).1; omega)) _ _ (by have := (O1_3s.out.2 b hb).1; omega))⟩
  have OR3 : Hd (OwCell VF [.int .i64 l3, .slice y4 n4 b4] F3 (⟨l3, l4⟩ : CellD)) := ⟨by rw [← HVF.out]; exact owCell_ok.keep O3_3s.out.1 (fun b hb => block_setN (block_set (block_set (rfl) (by have := (O3_3s.out.2 b hb).1; omega)) (by have := (O3_3s.out.2 b hb).1; omega)) _ _ (by have := (O3_3s.out.2 b hb).1; omega))⟩
  have LO : Hd (∀ x, F1 x ∨ F3 x → w.heap.size ≤ x) := ⟨fun x hx => by
    rcases hx with hx | hx
    · have := (O1_3s.out.2 x hx).1; omega
    · have := (O3_3s.out.2 x hx).1; omega⟩
  clear A3s Z3s C3s B3s O1_3s O3_3s CF ZF
  go_wp2_with (first | (show wpList _ _ _ (Oper.mk _ (Op.store 82 _ _) _ _ _ _ :: _) _ _; refine wpList_store_to 82 _ _ rfl rfl (w.heap.size + 1 + 1) 3 #[.int .i64 l3, .slice y4 n4 b4] rfl rfl hth3 infoCell hon3.out HV3.out ?_) | (show wpList _ _ _ (Oper.mk _ (Op.load 84 _) _ _ _ _ :: _) _ _; refine wpList_load_to 84 _ rfl rfl (w.heap.size + 1 + 1) 0 rfl [.string l0, .int .i64 l1, .slice y2 n2 b2, .int .i64 l3, .slice y4 n4 b4, .int .i64 l5, .bool l6] hrg Try.underlying84 rfl infoRow ?_) | (show wpList _ _ _ (Oper.mk _ (Op.store 84 _ _) _ _ _ _ :: _) _ _; refine wpList_store_to 84 _ _ rfl rfl (w.heap.size + 1) 0 #[.string l0, .int .i64 l1, .slice y2 n2 b2, .int .i64 l3, .slice y4 n4 b4, .int .i64 l5, .bool l6] rfl rfl htz infoRow honz.out HVF.out ?_))
  refine bodyPost_ret (results_cell_row rfl _ _ (w.heap.size + 1) _ _ (0, 0) _ rfl ZR.out Try.underlying84 rfl (by kernel_rfl)) rfl ?_
  exact ⟨⟨[.string l0, .int .i64 l1, .slice y2 n2 b2, .int .i64 l3, .slice y4 n4 b4, .int .i64 l5, .bool l6], rfl, fun x => F1 x ∨ F3 x, ⟨y2, n2, b2, y4, n4, b4, F1, F3, rfl, Z0.out, OR1.out, OR3.out, X1_3.out, fun x => Iff.rfl⟩, LO.out⟩, BR.out⟩

end Go.Proofs.Ytlididoalekeoaa
/- Lists in the words of Deep: a stronger reading of the elements; elements that weigh nothing. -/
namespace Go.Proofs.Ytlididoalekeoaa
set_option maxRecDepth 4000
open Go.RowKit

theorem rdS_mono {α : Type} {n : Nat} {R S : Rd α} (h : ∀ {w cs a}, R w cs a → S w cs a) {w : World} {cs : List Value} {ls : List α} (hr : RdS n R w cs ls) : RdS n S w cs ls := by
  obtain ⟨ao, len, cap, e, hm, hl, h2⟩ := hr
  refine ⟨ao, len, cap, e, hm, hl, h2.imp id ?_⟩
  rintro ⟨b, off, e, hc⟩
  exact ⟨b, off, e, fun j a ha => by
    obtain ⟨c, hn, hR, hcell⟩ := hc j a ha
    exact ⟨c, hn, h hR, hcell⟩⟩
theorem owC_zero (w : World) : OwC w [.slice none 0 0] (fun _ => False) [] := ⟨none, 0, 0, rfl, owB_nil w, Nat.le_refl _, fun _ => rfl⟩
theorem wt_none {α : Type} {f : α → Nat} (h : ∀ a, f a = 0) : ∀ ls : List α, (ls.map f).sum = 0
  | [] => rfl
  | a :: r => by rw [List.map_cons, List.sum_cons, h a, wt_none h r]

end Go.Proofs.Ytlididoalekeoaa
