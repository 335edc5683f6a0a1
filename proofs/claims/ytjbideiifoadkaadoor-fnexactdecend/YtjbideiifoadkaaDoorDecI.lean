/- Contracts of the program's DecNew, DecOk and DecEnd. -/
import Derived.Test.YtjbideiifoadkaaDoorMay
import Derived.Test.YtjbideiifoadkaaDoorStreamT
namespace Go.Proofs.YtjbideiifoadkaaDoor
set_option maxRecDepth 4000
open Go.RowKit

set_option maxHeartbeats 400000 in
theorem implDecNew_any (cs : Int) (w : World) :
    Calls Tryd.prog 12 #[.int .i64 cs] w fun e w' => e = .returned (.agg #[.int .i64 cs, .slice none 0 0, .bool false]) ∧ Below w.heap.size w w' := by
  go_enter Tryd.func12, Tryd.ntmps12
  go_wp2_with fail
  refine bodyPost_ret (results_cell_row rfl _ _ w.heap.size _ _ (0, 0) _ rfl (heap_alloc_new w _) Tryd.underlying30 rfl (by kernel_rfl)) rfl ?_
  exact ⟨rfl, below_lit w _⟩

theorem inB_yes {cs : Int} (h : 0 ≤ cs ∧ cs ≤ 5) : inB cs 0 5 = true := by unfold inB; simpa using h
theorem inB_no {cs : Int} (h : ¬ (0 ≤ cs ∧ cs ≤ 5)) : inB cs 0 5 = false := by unfold inB; simp; omega
theorem sOk_may {cs : Int} {bs : List UInt8} (h : 0 ≤ cs ∧ cs ≤ 5) : sOk cs bs false = mayB cs bs := by unfold sOk mayB; rw [inB_yes h]; simp
theorem sOk_badly {cs : Int} {bs : List UInt8} (h : 0 ≤ cs ∧ cs ≤ 5) : sOk cs bs true = decide (bs = []) := by unfold sOk; rw [inB_yes h]; simp

set_option maxHeartbeats 1000000 in
theorem implDecOk_any (cs : Int) (ao : Option Addr) (len cap : Nat) (bad : Bool) (bs : List UInt8) (w : World) (hr : Reads w ao len bs) (T : Hd (AllAt w)) :
    Calls Tryd.prog 13 #[.agg #[.int .i64 cs, .slice ao len cap, .bool bad]] w fun e w' => e = .returned (.bool (sOk cs bs bad)) ∧ Below w.heap.size w w' := by
  have Hr : Hd (Reads w ao len bs) := ⟨hr⟩
  clear hr
  go_enter Tryd.func13, Tryd.ntmps13
  go_wp2_with fail
  by_cases hcs : 0 ≤ cs ∧ cs ≤ 5
  · refine (setOf_yes cs _ hcs).mono ?_
    rintro e w1 ⟨rfl, rfl⟩
    have HC : Hd (0 ≤ cs ∧ cs ≤ 5) := ⟨hcs⟩
    clear hcs
    obtain ⟨sv, hsv⟩ : ∃ sv, setV cs = sv := ⟨_, rfl⟩
    have HSV : Hd (setV cs = sv) := ⟨hsv⟩
    rewrite [hsv]
    clear hsv
    cases bad with
    | true =>
      have HZ : Hd (((len : Int) == 0) = sOk cs bs true) := ⟨by
        rw [sOk_badly HC.out]
        by_cases h : len = 0
        · rw [h, List.eq_nil_of_length_eq_zero (Hr.out.1.trans h)]; rfl
        · have e : ((len : Int) == 0) = false := by simp; exact h
          rw [e]; exact (decide_eq_false (fun q => h (by rw [← Hr.out.1, q]; rfl))).symm⟩
      go_wp2_with fail
      go_ret
      exact ⟨ret_bool HZ.out, below_lit w _⟩
    | false =>
      have HZ : Hd (mayB cs bs = sOk cs bs false) := ⟨(sOk_may HC.out).symm⟩
      go_wp2_with fail
      rewrite [← HSV.out]
      refine (mayGoOn_any cs ao len cap bs _ (Hr.out.below rfl (below_lit w _)) ⟨T.out.below (below_lit w _)⟩).mono ?_
      rintro e w2 ⟨rfl, hB⟩
      rewrite [HSV.out]
      have HB : Hd (Below w.heap.size w w2) := ⟨Below.next (below_lit w _) hB⟩
      clear hB
      go_wp2_with fail
      go_ret
      exact ⟨ret_bool HZ.out, HB.out⟩
  · refine (setOf_no cs _ hcs).mono ?_
    rintro e w1 ⟨rfl, rfl⟩
    have HZ : Hd (sOk cs bs bad = false) := ⟨sOk_out (inB_no hcs)⟩
    clear hcs
    go_wp2_with fail
    go_ret
    exact ⟨ret_bool HZ.out.symm, below_lit w _⟩

set_option maxHeartbeats 1000000 in
theorem implDecEnd_any (cs : Int) (ao : Option Addr) (len cap : Nat) (bad : Bool) (bs : List UInt8) (w : World) (hr : Reads w ao len bs) (T : Hd (AllAt w)) :
    Calls Tryd.prog 17 #[.agg #[.int .i64 cs, .slice ao len cap, .bool bad]] w fun e w' => e = .returned (.bool (sOk cs bs bad && !bad && decide (bs = []))) ∧ Below w.heap.size w w' := by
  have Hr : Hd (Reads w ao len bs) := ⟨hr⟩
  clear hr
  go_enter Tryd.func17, Tryd.ntmps17
  go_wp2_with fail
  generalize hA : Obj.cells #[Value.int IntKind.i64 cs, Value.slice ao len cap, Value.bool bad] 30 = A
  refine (implDecOk_any cs ao len cap bad bs _ (Hr.out.below rfl (below_lit w A)) ⟨T.out.below (below_lit w A)⟩).mono ?_
  rintro e w1 ⟨rfl, hb⟩
  subst hA
  obtain ⟨p0, p1, p2, _, _, _⟩ := cells3 w1 w.heap.size _ _ _ _ ((hb.block w.heap.size (by simp)).trans (alloc_new w _ rfl))
  have HB : Hd (Below w.heap.size w w1) := ⟨Below.next (below_lit w _) hb⟩
  have HZ : Hd (decide (bs = []) = ((len : Int) == 0)) := ⟨by
    by_cases h : len = 0
    · rw [h, List.eq_nil_of_length_eq_zero (Hr.out.1.trans h)]; rfl
    · have e : ((len : Int) == 0) = false := by simp; exact h
      rw [e]; exact decide_eq_false (fun q => h (by rw [← Hr.out.1, q]; rfl))⟩
  clear hb
  cases hs : sOk cs bs bad with
  | false =>
    have HS : Hd (sOk cs bs bad = false) := ⟨hs⟩
    clear hs
    go_wp2_with fail
    go_ret
    exact ⟨ret_bool (by rw [HS.out]; rfl), HB.out⟩
  | true =>
    have HS : Hd (sOk cs bs bad = true) := ⟨hs⟩
    clear hs
    cases bad with
    | true =>
      go_wp2_with fail
      go_ret
      exact ⟨ret_bool (by rw [HS.out]; rfl), HB.out⟩
    | false =>
      go_wp2_with fail
      go_ret
      exact ⟨ret_bool (by rw [HS.out, HZ.out]; rfl), HB.out⟩

end Go.Proofs.YtjbideiifoadkaaDoor
