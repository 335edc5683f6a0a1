/- HeadOf of the program. -/
import Derived.Test.YtlididoalekeoaaHeadS
import Derived.Test.YtlididoalekeoaaPutNil
namespace Go.Proofs.Ytlididoalekeoaa
set_option maxRecDepth 4000
open Go.RowKit

theorem isGen_any (x : Int) (w : World) : Calls Try.prog 51 #[.int .i64 x] w fun e w' => e = .returned (.bool (inB x 1 60000)) ∧ w' = w := by
  by_cases h1 : 1 ≤ x
  · by_cases h2 : x ≤ 60000
    · go_enter Try.func51, Try.ntmps51
      go_wp2_with fail
      go_ret
      exact ⟨ret_bool (in_t ⟨h1, h2⟩).symm, rfl⟩
    · go_enter Try.func51, Try.ntmps51
      go_wp2_with fail
      go_ret
      exact ⟨ret_bool (in_f (by omega)).symm, rfl⟩
  · go_enter Try.func51, Try.ntmps51
    go_wp2_with fail
    go_ret
    exact ⟨ret_bool (in_f (by omega)).symm, rfl⟩
theorem isPlace_any (x : Int) (w : World) : Calls Try.prog 52 #[.int .i64 x] w fun e w' => e = .returned (.bool (inB x 0 30)) ∧ w' = w := by
  by_cases h1 : 0 ≤ x
  · by_cases h2 : x ≤ 30
    · go_enter Try.func52, Try.ntmps52
      go_wp2_with fail
      go_ret
      exact ⟨ret_bool (in_t ⟨h1, h2⟩).symm, rfl⟩
    · go_enter Try.func52, Try.ntmps52
      go_wp2_with fail
      go_ret
      exact ⟨ret_bool (in_f (by omega)).symm, rfl⟩
  · go_enter Try.func52, Try.ntmps52
    go_wp2_with fail
    go_ret
    exact ⟨ret_bool (in_f (by omega)).symm, rfl⟩
/-- Two words behind nothing. -/
theorem putTwo (wb : Nat) (gen place : Int) (w : World) (hb : w.heap[wb]? = some (.cells #[.int .i64 gen, .int .i64 place] 3 (0, 0))) :
    Calls Try.prog 53 #[.slice none 0 0, .slice (some ⟨wb, 0, none⟩) 2 2] w fun e w' => ∃ g c, e = .returned (.slice (some ⟨g, 0, none⟩) 4 c) ∧ w.heap.size ≤ g ∧ Own w' g c (hdRow gen place) ∧ Below w.heap.size w w' := by
  refine (putWords_none wb 2 2 [gen, place] w rfl (by omega) (fun j hj => cellsA hb j ?_)).mono ?_
  · match j, hj with
    | 0, _ => rfl
    | 1, _ => rfl
  rintro e w' ⟨c, rfl, hO, hB⟩
  exact ⟨_, c, rfl, Nat.le_refl _, hO, hB⟩

set_option maxHeartbeats 2000000 in
theorem implHeadOf_rd (gen n : Int) (w : World) : Calls Try.prog 9 #[.int .i64 gen, .int .i64 n] w (AnsSl OwB (hdB gen n) w) := by
  obtain ⟨ig, hig⟩ : ∃ x, inB gen 1 60000 = x := ⟨_, rfl⟩
  obtain ⟨ip, hip⟩ : ∃ x, inB n 0 30 = x := ⟨_, rfl⟩
  have HG : Hd (inB gen 1 60000 = ig) := ⟨hig⟩
  have HP : Hd (inB n 0 30 = ip) := ⟨hip⟩
  clear hig hip
  cases ig
  · rewrite [hdB_f (by unfold hdOk; rw [HG.out]; rfl)]
    go_enter Try.func9, Try.ntmps9
    go_wp2_with fail
    refine (isGen_any gen _).mono ?_
    rintro e v9 ⟨rfl, hw⟩
    replace hw := hw.symm
    subst hw
    rewrite [HG.out]
    go_wp2_with fail
    go_ret
    exact ansSl_none (Below.refl _ _)
  cases ip
  · rewrite [hdB_f (by unfold hdOk; rw [HG.out, HP.out]; rfl)]
    go_enter Try.func9, Try.ntmps9
    go_wp2_with fail
    refine (isGen_any gen _).mono ?_
    rintro e v9 ⟨rfl, hw⟩
    replace hw := hw.symm
    subst hw
    rewrite [HG.out]
    go_wp2_with fail
    refine (isPlace_any n _).mono ?_
    rintro e v9 ⟨rfl, hw⟩
    replace hw := hw.symm
    subst hw
    rewrite [HP.out]
    go_wp2_with fail
    go_ret
    exact ansSl_none (Below.refl _ _)
  · rewrite [hdB_t (by unfold hdOk; rw [HG.out, HP.out]; rfl)]
    go_enter Try.func9, Try.ntmps9
    go_wp2_with fail
    refine (isGen_any gen _).mono ?_
    rintro e v9 ⟨rfl, hw⟩
    replace hw := hw.symm
    subst hw
    rewrite [HG.out]
    go_wp2_with fail
    refine (isPlace_any n _).mono ?_
    rintro e v9 ⟨rfl, hw⟩
    replace hw := hw.symm
    subst hw
    rewrite [HP.out]
    go_wp2_with fail
    refine (putTwo w.heap.size gen n _ (heap_alloc_new w _)).mono ?_
    rintro e w2 ⟨g2, c2, rfl, hg2, hO2, hB2⟩
    have Q2 : Hd (Own w2 g2 c2 (hdRow gen n) ∧ Below w.heap.size w w2 ∧ w.heap.size ≤ g2) := ⟨hO2, Below.next (below_lit w _) hB2, by simp at hg2; omega⟩
    clear hO2 hB2 hg2
    go_wp2_with fail
    refine (implSum_any _ 4 c2 (hdRow gen n) _ (Q2.out.1.row.reads rfl) (by omega)).mono ?_
    rintro e w9 ⟨rfl, hw⟩
    replace hw := hw.symm
    subst hw
    obtain ⟨sm, hsm⟩ : ∃ x, ((sumOf (hdRow gen n) : Nat) : Int) = x := ⟨_, rfl⟩
    have HS : Hd (((sumOf (hdRow gen n) : Nat) : Int) = sm) := ⟨hsm⟩
    rewrite [hsm]
    clear hsm
    go_wp2_with fail
    refine (implPutW_some g2 0 4 c2 (hdRow gen n) sm _ rfl (Q2.out.1.cell rfl) Q2.out.1.lt (by omega)).mono ?_
    rintro e w4 ⟨g4, c4, rfl, hg4, hO4, hB4⟩
    have Q4 : Hd (Own w4 g4 c4 (hdRow gen n ++ [hiB ((sumOf (hdRow gen n) : Nat) : Int), loB ((sumOf (hdRow gen n) : Nat) : Int)]) ∧ Below w.heap.size w w4 ∧ w.heap.size ≤ g4) := ⟨by rw [HS.out]; exact hO4, Below.next Q2.out.2.1 hB4, by have := Q2.out.2.1.size; omega⟩
    clear hO4 hB4 hg4 Q2 HS
    go_wp2_with fail
    go_ret
    exact ansSl_new rfl Q4.out.2.2 Q4.out.1 Q4.out.2.1

end Go.Proofs.Ytlididoalekeoaa
