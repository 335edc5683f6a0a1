/- HeadOf and GetHead of the specification. -/
import Derived.Test.YtlididoalekeoaaHeadP
import Derived.Test.YtlididoalekeoaaCloneB
namespace Go.Proofs.Ytlididoalekeoaa
set_option maxRecDepth 4000
open Go.RowKit

theorem ansSl_none {w w' : World} (hB : Below w.heap.size w w') : AnsSl OwB [] w (.returned (.slice none 0 0)) w' :=
  ⟨⟨_, _, _, rfl, fun _ => False, owB_nil w', fun _ hx => hx.elim⟩, hB⟩
theorem ansSl_new {w w' : World} {g k n : Nat} {bs : List UInt8} (hn : bs.length = n) (hg : w.heap.size ≤ g) (hO : Own w' g k bs) (hB : Below w.heap.size w w') : AnsSl OwB bs w (.returned (.slice (some ⟨g, 0, none⟩) n k)) w' :=
  ⟨⟨_, _, _, rfl, fun x => x = g, owB_row hO.row hn, fun x hx => by rw [hx]; exact hg⟩, hB⟩
theorem hd_wt (gen n : Int) : wtB (hdB gen n) ≤ 1073741824 ∧ 1 + ctB (hdB gen n) ≤ 1073741824 := by
  have := hdB_len gen n
  unfold wtB ctB
  omega

set_option maxHeartbeats 2000000 in
theorem specHeadOf_ow (gen n : Int) (w : World) : Calls Try.prog 8 #[.int .i64 gen, .int .i64 n] w (AnsSl OwB (hdB gen n) w) := by
  obtain ⟨ig, hig⟩ : ∃ x, inB gen 1 60000 = x := ⟨_, rfl⟩
  obtain ⟨ip, hip⟩ : ∃ x, inB n 0 30 = x := ⟨_, rfl⟩
  have HG : Hd (inB gen 1 60000 = ig) := ⟨hig⟩
  have HP : Hd (inB n 0 30 = ip) := ⟨hip⟩
  clear hig hip
  cases ig
  · rewrite [hdB_f (by unfold hdOk; rw [HG.out]; rfl)]
    go_enter Try.func8, Try.ntmps8
    go_wp2_with fail
    refine (l1In_any gen 1 60000 _).mono ?_
    rintro e v9 ⟨rfl, hw⟩
    replace hw := hw.symm
    subst hw
    rewrite [HG.out]
    go_wp2_with fail
    go_ret
    exact ansSl_new rfl (Nat.le_refl _) (own_emp w) (below_lit w _)
  cases ip
  · rewrite [hdB_f (by unfold hdOk; rw [HG.out, HP.out]; rfl)]
    go_enter Try.func8, Try.ntmps8
    go_wp2_with fail
    refine (l1In_any gen 1 60000 _).mono ?_
    rintro e v9 ⟨rfl, hw⟩
    replace hw := hw.symm
    subst hw
    rewrite [HG.out]
    go_wp2_with fail
    refine (l1In_any n 0 30 _).mono ?_
    rintro e v9 ⟨rfl, hw⟩
    replace hw := hw.symm
    subst hw
    rewrite [HP.out]
    go_wp2_with fail
    go_ret
    exact ansSl_new rfl (Nat.le_refl _) (own_emp w) (below_lit w _)
  · rewrite [hdB_t (by unfold hdOk; rw [HG.out, HP.out]; rfl)]
    go_enter Try.func8, Try.ntmps8
    go_wp2_with fail
    refine (l1In_any gen 1 60000 _).mono ?_
    rintro e v9 ⟨rfl, hw⟩
    replace hw := hw.symm
    subst hw
    rewrite [HG.out]
    go_wp2_with fail
    refine (l1In_any n 0 30 _).mono ?_
    rintro e v9 ⟨rfl, hw⟩
    replace hw := hw.symm
    subst hw
    rewrite [HP.out]
    go_wp2_with fail
    refine (specPutW_some w.heap.size 0 0 0 [] gen _ rfl (fun j hj => by omega) (by simp) (by omega)).mono ?_
    rintro e w1 ⟨g1, c1, rfl, hg1, hO1, hB1⟩
    have Q1 : Hd (Own w1 g1 c1 [hiB gen, loB gen] ∧ Below w.heap.size w w1 ∧ w.heap.size ≤ g1) := ⟨hO1, Below.next (below_lit w _) hB1, by simp at hg1; omega⟩
    clear hO1 hB1 hg1
    go_wp2_with fail
    refine (specPutW_some g1 0 2 c1 [hiB gen, loB gen] n _ rfl (Q1.out.1.cell rfl) Q1.out.1.lt (by omega)).mono ?_
    rintro e w2 ⟨g2, c2, rfl, hg2, hO2, hB2⟩
    have Q2 : Hd (Own w2 g2 c2 (hdRow gen n) ∧ Below w.heap.size w w2 ∧ w.heap.size ≤ g2) := ⟨hO2, Below.next Q1.out.2.1 hB2, by have := Q1.out.2.1.size; omega⟩
    clear hO2 hB2 hg2 Q1
    go_wp2_with fail
    refine (specSum_any _ 4 c2 (hdRow gen n) _ (Q2.out.1.row.reads rfl) (by omega)).mono ?_
    rintro e w9 ⟨rfl, hw⟩
    replace hw := hw.symm
    subst hw
    obtain ⟨sm, hsm⟩ : ∃ x, ((sumOf (hdRow gen n) : Nat) : Int) = x := ⟨_, rfl⟩
    have HS : Hd (((sumOf (hdRow gen n) : Nat) : Int) = sm) := ⟨hsm⟩
    rewrite [hsm]
    clear hsm
    go_wp2_with fail
    refine (specPutW_some g2 0 4 c2 (hdRow gen n) sm _ rfl (Q2.out.1.cell rfl) Q2.out.1.lt (by omega)).mono ?_
    rintro e w4 ⟨g4, c4, rfl, hg4, hO4, hB4⟩
    have Q4 : Hd (Own w4 g4 c4 (hdRow gen n ++ [hiB ((sumOf (hdRow gen n) : Nat) : Int), loB ((sumOf (hdRow gen n) : Nat) : Int)]) ∧ Below w.heap.size w w4 ∧ w.heap.size ≤ g4) := ⟨by rw [HS.out]; exact hO4, Below.next Q2.out.2.1 hB4, by have := Q2.out.2.1.size; omega⟩
    clear hO4 hB4 hg4 Q2 HS
    go_wp2_with fail
    go_ret
    exact ansSl_new rfl Q4.out.2.2 Q4.out.1 Q4.out.2.1

end Go.Proofs.Ytlididoalekeoaa
