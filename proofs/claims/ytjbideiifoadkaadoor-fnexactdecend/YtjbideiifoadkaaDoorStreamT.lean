/- Contracts of the specification's states: what begins a sign of a set, whether a state is right, a new one, whether all was read. -/
import Derived.Test.YtjbideiifoadkaaDoorStreamS
import Derived.Test.YtjbideiifoadkaaDoorDecS
namespace Go.Proofs.YtjbideiifoadkaaDoor
set_option maxRecDepth 4000
open Go.RowKit

theorem Reads.some {w : World} {ao : Option Addr} {len : Nat} {bs : List UInt8} (h : Reads w ao len bs) (h0 : 0 < len) : ∃ b off, ao = some ⟨b, off, none⟩ ∧ ∀ j, j < len → w.cell? ⟨b, off + j, none⟩ = Option.some (.int .u8 ((bs.getD j 0).toNat : Int)) := by
  rcases h.2 with h1 | h1
  · omega
  · exact h1

set_option maxHeartbeats 1000000 in
theorem l6Begins_any (cs : Int) (ao : Option Addr) (len cap : Nat) (bs : List UInt8) (w : World) (hr : Reads w ao len bs) (hl : len ≤ 1073741824) :
    Calls Tryd.prog 39 #[.int .i64 cs, .slice ao len cap] w fun e w' => e = .returned (.bool (beg cs bs)) ∧ Below w.heap.size w w' := by
  by_cases h5 : cs = 5
  · subst h5
    by_cases h1 : len = 1
    · subst h1
      obtain ⟨b, off, rfl, hc⟩ := hr.some (by omega)
      have hc0 : w.cell? ⟨b, off, none⟩ = some (.int .u8 (gv bs 0 : Int)) := hc 0 (by omega)
      have HE : Hd (beg 5 bs = decide (gv bs 0 = 164 ∨ gv bs 0 = 165)) := ⟨by rw [beg_euc]; have := hr.1; simp [this]⟩
      generalize gv bs 0 = x at *
      clear hr hc
      by_cases x1 : x = 164
      · subst x1
        go_enter Tryd.func39, Tryd.ntmps39
        go_wp2_with fail
        go_ret
        exact ⟨ret_bool (by rw [HE.out]; rfl), Below.refl _ _⟩
      · have n1 : ((x : Int) == 164) = false := by simp; omega
        by_cases x2 : x = 165
        · subst x2
          go_enter Tryd.func39, Tryd.ntmps39
          go_wp2_with fail
          go_ret
          exact ⟨ret_bool (by rw [HE.out]; rfl), Below.refl _ _⟩
        · have n2 : ((x : Int) == 165) = false := by simp; omega
          have HE2 : Hd (beg 5 bs = false) := ⟨by rw [HE.out]; exact decide_eq_false (by omega)⟩
          clear x1 x2 HE
          go_enter Tryd.func39, Tryd.ntmps39
          go_wp2_with fail
          go_ret
          exact ⟨ret_bool HE2.out.symm, Below.refl _ _⟩
    · have HE : Hd (beg 5 bs = false) := ⟨by rw [beg_euc]; exact decide_eq_false (by rintro ⟨h, _⟩; exact h1 (by rw [← hr.1]; exact h))⟩
      have n1 : ((len : Int) == 1) = false := by simp; omega
      clear hr h1
      go_enter Tryd.func39, Tryd.ntmps39
      go_wp2_with fail
      go_ret
      exact ⟨ret_bool HE.out.symm, Below.refl _ _⟩
  by_cases h0 : cs = 0
  · subst h0
    have Hr : Hd (Reads w ao len bs) := ⟨hr⟩
    clear h5 hr
    go_enter Tryd.func39, Tryd.ntmps39
    go_wp2_with fail
    by_cases hz : len = 0
    · subst hz
      refine (l6Utf_none ao cap _).mono ?_
      rintro e w1 ⟨rfl, hw⟩
      subst hw
      have HE : Hd (beg 0 bs = false) := ⟨by rw [beg_utf, List.eq_nil_of_length_eq_zero Hr.out.1]; exact utf_none⟩
      go_wp2_with fail
      go_ret
      exact ⟨ret_bool HE.out.symm, Below.refl _ _⟩
    · obtain ⟨b, off, rfl, hc⟩ := Hr.out.some (by omega)
      refine (l6Utf_some b off len cap bs _ Hr.out.1 hc hl (by omega)).mono ?_
      rintro e w1 ⟨rfl, hB⟩
      have HB : Hd (Below w.heap.size w w1) := ⟨hB⟩
      have HE : Hd (begU bs = beg 0 bs) := ⟨(beg_utf bs).symm⟩
      clear hc hB
      go_wp2_with fail
      go_ret
      exact ⟨ret_bool HE.out, HB.out⟩
  · have HE : Hd (beg cs bs = false) := ⟨beg_byte h0 h5 bs⟩
    have n5 : (cs == 5) = false := by simp; exact h5
    have n0 : (cs == 0) = false := by simp; exact h0
    clear hr h0 h5
    go_enter Tryd.func39, Tryd.ntmps39
    go_wp2_with fail
    go_ret
    exact ⟨ret_bool HE.out.symm, Below.refl _ _⟩

theorem sOk_out {cs : Int} {bs : List UInt8} {bad : Bool} (h : inB cs 0 5 = false) : sOk cs bs bad = false := by unfold sOk; rw [h]; rfl
theorem sOk_nil {cs : Int} {bad : Bool} (h : inB cs 0 5 = true) : sOk cs [] bad = true := by unfold sOk; rw [h]; rfl
theorem sOk_bad {cs : Int} {bs : List UInt8} (h : bs ≠ []) : sOk cs bs true = false := by unfold sOk; rw [decide_eq_false h]; simp
theorem sOk_beg {cs : Int} {bs : List UInt8} (h : inB cs 0 5 = true) (hb : bs ≠ []) : sOk cs bs false = beg cs bs := by unfold sOk; rw [h, decide_eq_false hb]; simp

set_option maxHeartbeats 1000000 in
theorem specDecOk_any (cs : Int) (ao : Option Addr) (len cap : Nat) (bad : Bool) (bs : List UInt8) (w : World) (hr : Reads w ao len bs) (hl : len ≤ 1073741824) :
    Calls Tryd.prog 14 #[.agg #[.int .i64 cs, .slice ao len cap, .bool bad]] w fun e w' => e = .returned (.bool (sOk cs bs bad)) ∧ Below w.heap.size w w' := by
  have Hr : Hd (Reads w ao len bs) := ⟨hr⟩
  clear hr
  go_enter Tryd.func14, Tryd.ntmps14
  go_wp2_with fail
  refine (l5Cs_any cs _).mono ?_
  rintro e w1 ⟨rfl, hw⟩
  replace hw := hw.symm
  subst hw
  cases hi : inB cs 0 5 with
  | false =>
    have HE : Hd (sOk cs bs bad = false) := ⟨sOk_out hi⟩
    clear hi
    go_wp2_with fail
    go_ret
    exact ⟨ret_bool HE.out.symm, below_lit w _⟩
  | true =>
    by_cases hz : len = 0
    · subst hz
      have HE : Hd (sOk cs bs bad = true) := ⟨by rw [List.eq_nil_of_length_eq_zero Hr.out.1]; exact sOk_nil hi⟩
      clear hi
      go_wp2_with fail
      go_ret
      exact ⟨ret_bool HE.out.symm, below_lit w _⟩
    · have n0 : ((len : Int) == 0) = false := by simp; exact hz
      have hne : bs ≠ [] := by intro e; have := Hr.out.1; rw [e] at this; exact hz this.symm
      cases bad with
      | true =>
        have HE : Hd (sOk cs bs true = false) := ⟨sOk_bad hne⟩
        clear hi hz hne
        go_wp2_with fail
        go_ret
        exact ⟨ret_bool HE.out.symm, below_lit w _⟩
      | false =>
        have HE : Hd (sOk cs bs false = beg cs bs) := ⟨sOk_beg hi hne⟩
        clear hi hz hne
        go_wp2_with fail
        refine (l6Begins_any cs ao len cap bs _ (Hr.out.below rfl (below_lit w _)) hl).mono ?_
        rintro e w2 ⟨rfl, hB⟩
        have HB : Hd (Below w.heap.size w w2) := ⟨Below.next (below_lit w _) hB⟩
        clear hB
        go_wp2_with fail
        go_ret
        exact ⟨ret_bool HE.out.symm, HB.out⟩

set_option maxHeartbeats 400000 in
theorem specDecNew_any (cs : Int) (w : World) :
    Calls Tryd.prog 15 #[.int .i64 cs] w fun e w' => e = .returned (.agg #[.int .i64 cs, .slice none 0 0, .bool false]) ∧ Below w.heap.size w w' := by
  go_enter Tryd.func15, Tryd.ntmps15
  go_wp2_with fail
  refine bodyPost_ret (results_cell_row rfl _ _ w.heap.size _ _ (0, 0) _ rfl (heap_alloc_new w _) Tryd.underlying30 rfl (by kernel_rfl)) rfl ?_
  exact ⟨rfl, below_lit w _⟩

set_option maxHeartbeats 1000000 in
theorem specDecEnd_any (cs : Int) (ao : Option Addr) (len cap : Nat) (bad : Bool) (bs : List UInt8) (w : World) (hr : Reads w ao len bs) (hl : len ≤ 1073741824) :
    Calls Tryd.prog 23 #[.agg #[.int .i64 cs, .slice ao len cap, .bool bad]] w fun e w' => e = .returned (.bool (sOk cs bs bad && !bad && decide (bs = []))) ∧ Below w.heap.size w w' := by
  have Hr : Hd (Reads w ao len bs) := ⟨hr⟩
  clear hr
  go_enter Tryd.func23, Tryd.ntmps23
  go_wp2_with fail
  generalize hA : Obj.cells #[Value.int IntKind.i64 cs, Value.slice ao len cap, Value.bool bad] 30 = A
  refine (specDecOk_any cs ao len cap bad bs _ (Hr.out.below rfl (below_lit w A)) hl).mono ?_
  rintro e w1 ⟨rfl, hb⟩
  subst hA
  obtain ⟨p0, p1, p2, _, _, _⟩ := cells3 w1 w.heap.size _ _ _ _ ((hb.block w.heap.size (by simp)).trans (alloc_new w _ rfl))
  have HB : Hd (Below w.heap.size w w1) := ⟨Below.next (below_lit w _) hb⟩
  have HZ : Hd (decide (bs = []) = ((len : Int) == 0)) := ⟨by
    by_cases h : len = 0
    · rw [h, List.eq_nil_of_length_eq_zero (Hr.out.1.trans h)]; rfl
    · have e : ((len : Int) == 0) = false := by simp; exact h
      rw [e]; exact decide_eq_false (fun q => h (by rw [← Hr.out.1, q]; rfl))⟩
  clear hb
  cases hs : sOk cs bs bad with
  | false =>
    have HS : Hd (sOk cs bs bad = false) := ⟨hs⟩
    clear hs
    go_wp2_with fail
    go_ret
    exact ⟨ret_bool (by rw [HS.out]; rfl), HB.out⟩
  | true =>
    have HS : Hd (sOk cs bs bad = true) := ⟨hs⟩
    clear hs
    cases bad with
    | true =>
      go_wp2_with fail
      go_ret
      exact ⟨ret_bool (by rw [HS.out]; rfl), HB.out⟩
    | false =>
      go_wp2_with fail
      go_ret
      exact ⟨ret_bool (by rw [HS.out, HZ.out]; rfl), HB.out⟩

end Go.Proofs.YtjbideiifoadkaaDoor
