/- The program: one more operation, and a write. -/
import Derived.Test.YtidbhdlhcmjhkaaDevC
import Derived.Test.YtidbhdlhcmjhkaaDevI
namespace Go.Proofs.Ytidbhdlhcmjhkaa
set_option maxRecDepth 4000
open Go.RowKit

def opOn (f : Int) : Bool := !decide (f = 0)
def opFuse (f : Int) : Int := if f = 0 then -1 else fuseDown f
def opDown (f : Int) (b : Bool) : Bool := if f = 0 then true else b
set_option maxHeartbeats 2000000 in
theorem implOperate_any (x0 : Option Addr) (m0 d0 : Nat) (x1 : Option Addr) (m1 d1 : Nat) (f : Int) (b : Bool) (w : World) (hf : Hd (-1 ≤ f ∧ f ≤ 1000)) :
    Calls Try.prog 31 #[.agg #[.slice x0 m0 d0, .slice x1 m1 d1, .int .i64 f, .bool b]] w fun e w' => e = .returned (.tuple #[.agg #[.slice x0 m0 d0, .slice x1 m1 d1, .int .i64 (opFuse f), .bool (opDown f b)], .bool (opOn f)]) ∧ Below w.heap.size w w' := by
  by_cases h0 : f = 0
  · subst h0
    have e1 : opFuse 0 = -1 := rfl
    have e2 : opDown 0 b = true := rfl
    have e3 : opOn 0 = false := rfl
    rw [e1, e2, e3]
    clear e1 e2 e3 hf
    go_enter Try.func31, Try.ntmps31
    go_wp2
    refine bodyPost_ret (results_row_tmp rfl _ _ (w.heap.size + 1) _ _ (0, 0) _ rfl (laid2 w _ _).2 Try.underlying27 rfl (by kernel_rfl)) rfl ?_
    exact ⟨rfl, below_lit2 w _ _⟩
  · have e2 : opDown f b = b := if_neg h0
    have e3 : opOn f = true := by simp [opOn, h0]
    have h0' : (f == 0) = false := by simpa using h0
    by_cases h1 : 0 < f
    · have e1 : opFuse f = f - 1 := by unfold opFuse fuseDown; rw [if_neg h0, if_pos h1]
      rw [e1, e2, e3]
      have hw : wrap64 (f - 1) = f - 1 := by have := hf.out; exact wrap64_in (by omega) (by omega)
      clear e1 e2 e3 hf
      go_enter Try.func31, Try.ntmps31
      go_wp2
      refine bodyPost_ret (results_row_tmp rfl _ _ (w.heap.size + 1) _ _ (0, 0) _ rfl (laid2 w _ _).2 Try.underlying27 rfl (by kernel_rfl)) rfl ?_
      exact ⟨rfl, below_lit2 w _ _⟩
    · have e1 : opFuse f = f := by unfold opFuse fuseDown; rw [if_neg h0, if_neg h1]
      rw [e1, e2, e3]
      clear e1 e2 e3 hf
      go_enter Try.func31, Try.ntmps31
      go_wp2
      refine bodyPost_ret (results_row_tmp rfl _ _ (w.heap.size + 1) _ _ (0, 0) _ rfl (laid2 w _ _).2 Try.underlying27 rfl (by kernel_rfl)) rfl ?_
      exact ⟨rfl, below_lit2 w _ _⟩

/-- What the box holds is answered. -/
theorem CpAt.ret {w wx : World} {A : Array Value} {q : Nat} {d : DevD} (h : CpAt w A q d wx) {v0 v1 v2 v3 : Value} (hq : wx.heap[q]? = some (.cells #[v0, v1, v2, v3] 27 (0, 0))) :
    AnsAgg OwDev d w (.returned (.agg #[v0, v1, v2, v3])) ((((wx.setCell ⟨w.heap.size + 1, 0, none⟩ v0).setCell ⟨w.heap.size + 1, 1, none⟩ v1).setCell ⟨w.heap.size + 1, 2, none⟩ v2).setCell ⟨w.heap.size + 1, 3, none⟩ v3) := by
  obtain ⟨F, ⟨cs, hq', hO, hn⟩, hF⟩ := h.box
  rw [hq] at hq'
  simp only [Option.some.injEq, Obj.cells.injEq, and_true] at hq'
  have e : cs = [v0, v1, v2, v3] := by have := congrArg Array.toList hq'; simpa using this.symm
  subst e
  exact ⟨⟨_, rfl, F, owDev_ok.keep hO (fun b hb => block_set (block_set (block_set (block_set rfl (by have := hF b hb; omega)) (by have := hF b hb; omega)) (by have := hF b hb; omega)) (by have := hF b hb; omega)), fun x hx => by have := hF x hx; omega⟩,
    bset (bset (bset (bset h.bel _ (by omega)) _ (by omega)) _ (by omega)) _ (by omega)⟩
theorem CpAt.resAt {w wx : World} {A : Array Value} {q : Nat} {d : DevD} (h : CpAt w A q d wx) (v0 v1 v2 v3 : Value) :
    ((((wx.setCell ⟨w.heap.size + 1, 0, none⟩ v0).setCell ⟨w.heap.size + 1, 1, none⟩ v1).setCell ⟨w.heap.size + 1, 2, none⟩ v2).setCell ⟨w.heap.size + 1, 3, none⟩ v3).heap[w.heap.size + 1]? = some (.cells #[v0, v1, v2, v3] 27 (0, 0)) :=
  setA (setA (setA (setA h.res 0 _ rfl) 1 _ rfl) 2 _ rfl) 3 _ rfl
/-- A copy is laid into a box of its own. -/
theorem cpAt_of {w wx : World} {A : Array Value} {d : DevD} {cs : List Value} (bel : Below w.heap.size w wx) (arg : wx.heap[w.heap.size]? = some (.cells A 27 (0, 0)))
    (res : wx.heap[w.heap.size + 1]? = some (.cells #[.slice none 0 0, .slice none 0 0, .int .i64 0, .bool false] 27 (0, 0))) {B : Nat} (hB : w.heap.size + 2 ≤ B) (hN : New B OwDev wx cs d) :
    CpAt w A wx.heap.size d (wx.alloc (.cells cs.toArray 27)) := by
  obtain ⟨F, hO, hF⟩ := hN
  have hb := below_lit wx (.cells cs.toArray 27)
  exact ⟨Below.next bel hb, (hb.block _ (lt_of_block arg)).trans arg, (hb.block _ (lt_of_block res)).trans res, ⟨F, ⟨cs, heap_alloc_new wx _, owDev_ok.below hO hb, fun h => by have := owDev_ok.lt hO _ h; omega⟩, fun x hx => by have := hF x hx; omega⟩, by have := lt_of_block res; omega⟩
theorem BoxDev.cells {w : World} {q : Nat} {F : Fp} {d : DevD} (h : BoxDev w q F d) : ∃ x0 m0 d0 x1 m1 d1, w.heap[q]? = some (.cells #[.slice x0 m0 d0, .slice x1 m1 d1, .int .i64 d.fuse, .bool d.down] 27 (0, 0)) := by
  obtain ⟨x0, m0, d0, x1, m1, d1, F0, F1, hq, _⟩ := h.parts
  exact ⟨x0, m0, d0, x1, m1, d1, hq⟩
/-- The number of operations left, and whether it is down, are laid anew. -/
theorem CpAt.setOp {w wx w1 : World} {A : Array Value} {q : Nat} {d : DevD} (h : CpAt w A q d wx) {x0 x1 : Option Addr} {m0 d0 m1 d1 : Nat} (hq : wx.heap[q]? = some (.cells #[.slice x0 m0 d0, .slice x1 m1 d1, .int .i64 d.fuse, .bool d.down] 27 (0, 0))) (hb : Below wx.heap.size wx w1) (f : Int) (b : Bool) :
    CpAt w A q { d with fuse := f, down := b } ((((w1.setCell ⟨q, 0, none⟩ (.slice x0 m0 d0)).setCell ⟨q, 1, none⟩ (.slice x1 m1 d1)).setCell ⟨q, 2, none⟩ (.int .i64 f)).setCell ⟨q, 3, none⟩ (.bool b)) ∧
    ((((w1.setCell ⟨q, 0, none⟩ (.slice x0 m0 d0)).setCell ⟨q, 1, none⟩ (.slice x1 m1 d1)).setCell ⟨q, 2, none⟩ (.int .i64 f)).setCell ⟨q, 3, none⟩ (.bool b)).heap[q]? = some (.cells #[.slice x0 m0 d0, .slice x1 m1 d1, .int .i64 f, .bool b] 27 (0, 0)) := by
  have h1 := h.below hb
  have hq1 := (hb.block _ (lt_of_block hq)).trans hq
  have hs := setA (setA (setA (setA hq1 0 (.slice x0 m0 d0) rfl) 1 (.slice x1 m1 d1) rfl) 2 (.int .i64 f) rfl) 3 (.bool b) rfl
  have h2 := h.q2
  obtain ⟨F, hB, hF⟩ := h1.box
  obtain ⟨y0, n0, e0, y1, n1, e1, F0, F1, hq', r0, r1, k1, k2, hn⟩ := hB.parts
  rw [hq1] at hq'
  simp only [Option.some.injEq, Obj.cells.injEq, Array.mk.injEq, List.cons.injEq, Value.slice.injEq, and_true] at hq'
  obtain ⟨⟨rfl, rfl, rfl⟩, rfl, rfl, rfl⟩ := hq'
  have hne : ∀ x, F x → x ≠ q := fun x hx e => hn (by rw [← e]; exact hx)
  exact ⟨⟨bset (bset (bset (bset h1.bel _ (by omega)) _ (by omega)) _ (by omega)) _ (by omega), block_set (block_set (block_set (block_set h1.arg (by omega)) (by omega)) (by omega)) (by omega), block_set (block_set (block_set (block_set h1.res (by omega)) (by omega)) (by omega)) (by omega),
    ⟨F, boxDev_of hs (owByteSS_ok.keep r0 (fun x hx => block_set (block_set (block_set (block_set rfl (hne x ((k2 x).2 (.inl hx)))) (hne x ((k2 x).2 (.inl hx)))) (hne x ((k2 x).2 (.inl hx)))) (hne x ((k2 x).2 (.inl hx)))))
      (owWrS_ok.keep r1 (fun x hx => block_set (block_set (block_set (block_set rfl (hne x ((k2 x).2 (.inr hx)))) (hne x ((k2 x).2 (.inr hx)))) (hne x ((k2 x).2 (.inr hx)))) (hne x ((k2 x).2 (.inr hx))))) k1 k2 hn, hF⟩, h1.q2⟩, hs⟩

end Go.Proofs.Ytidbhdlhcmjhkaa
