/- At every cell (a number and bytes of at most 1048576) the program answers what the specification answers on whether it is one, and leaves its argument as it was. -/
import Derived.Test.YtgefabagpcjegaaRows
import Derived.WalkKit
import Derived.ProofKit
import Derived.OpenShut
import Derived.ShutString
import Derived.ChangeOld
import Derived.Below
import Derived.OpenVars
import Derived.Lay
import Derived.MakeChecks
import Derived.SevenTiedAt
import Derived.Stop.Joined
import Derived.Lib.SmallJoins
import Derived.Test.YtgefabagpcjegaaCellK
namespace Go.Proofs.Ytgefabagpcjegaa.fnExactCellOk
open Go.ChangeShapes Go.WideShapes Go.ChangeAt Go.RowKit
open Go.ChangeMaps (open_string shut_string)
set_option linter.unusedVariables false

theorem own : ownKnob Try.prog.godebug = none := by kernel_rfl
theorem laidOut : laidOutB Try.prog = true := by kernel_rfl

def IsRow (k : IntKind) (w : World) (a : Option Addr) (len cap : Nat) (zs : List Int) : Prop :=
  (a = none ∧ len = 0 ∧ cap = 0 ∧ zs = []) ∨
  ∃ x, a = some x ∧ len ≤ cap ∧ cap ≤ maxLen ∧ zs.length = cap ∧ (∀ i, i < zs.length → w.cell? (x.add i) = some (.int k (zs.getD i 0))) ∧ ∀ n ∈ zs, (Lit.int k n).wf = true

set_option maxRecDepth 4000 in
set_option maxHeartbeats 4000000 in
theorem walk (a0_0 : Int) (w0_0 : (Lit.int .i64 a0_0).wf = true) (a0_1 : Option Addr) (len0_1 cap0_1 : Nat) (z0_1 : List Int) (w : World) (w0_1 : IsRow .u8 w a0_1 len0_1 cap0_1 z0_1)  :
    Calls Try.prog 3 #[.agg #[.int .i64 a0_0, .slice a0_1 len0_1 cap0_1]] w fun e w' => e = .returned (.bool true) ∧ Below w.heap.size w w' := by
  obtain ⟨bs, hr⟩ := reads_of_row w0_1
  have hmax : Hd (len0_1 ≤ maxLen) := ⟨by
    rcases w0_1 with ⟨_, h, _⟩ | ⟨_, _, h1, h2, _⟩
    · rw [h]; exact Nat.zero_le _
    · exact Nat.le_trans h1 h2⟩
  have A0 : Hd (ExC w w.heap.size a0_0 a0_1 len0_1 cap0_1 bs (w.alloc (.cells #[.int .i64 a0_0, .slice a0_1 len0_1 cap0_1] 24))) := ⟨alloc_new w _ rfl, hr, below_lit w _, Nat.le_refl _⟩
  have HL0 : Hd (bs.length = len0_1) := ⟨hr.1⟩
  clear w0_0 w0_1 hr
  go_enter Try.func3, Try.ntmps3
  go_wp2_with fail
  refine (szCell_n a0_0 a0_1 len0_1 cap0_1 1048576 _ hmax ⟨⟨by omega, by omega⟩⟩).mono ?_
  rintro e w1 ⟨rfl, hB1⟩
  have A1 : Hd (ExC w w.heap.size a0_0 a0_1 len0_1 cap0_1 bs w1) := ⟨A0.out.below hB1⟩
  clear hB1 A0 hmax
  by_cases hb0 : (1048576 : Int) < (len0_1 : Int)
  · rewrite [show leftOf 1048576 len0_1 = -1 from if_pos hb0]
    go_wp2_with fail
    go_ret
    exact ⟨rfl, A1.out.bel⟩
  rewrite [show leftOf 1048576 len0_1 = 1048576 - (len0_1 : Int) from if_neg hb0]
  have hsz : ¬ (1048576 : Int) - (len0_1 : Int) < 0 := by omega
  have hlen : len0_1 ≤ 1048576 := by omega
  obtain ⟨ok, h1⟩ : ∃ x, (cOk a0_0 len0_1) = x := ⟨_, rfl⟩
  have HK : Hd ((cOk a0_0 len0_1) = ok) := ⟨h1⟩
  clear h1
  have okf : (ok != ok) = false := by simp
  obtain ⟨p0, p1, _, _⟩ := cells2 w1 w.heap.size _ _ _ A1.out.box
  go_wp2_with fail
  refine (toCell_any a0_0 a0_1 len0_1 cap0_1 bs _ A1.out.reads (by omega)).mono ?_
  rintro e w2 ⟨g2, rfl, hg, hR, hB⟩
  have A2 : Hd (ExC w w.heap.size a0_0 a0_1 len0_1 cap0_1 bs w2) := ⟨A1.out.below hB⟩
  have R2 : Hd (Row w2 g2 bs) := ⟨hR⟩
  clear hg hR hB p0 p1 A1
  go_wp2_with fail
  refine (specCellOk_any a0_0 (some ⟨g2, 0, none⟩) len0_1 len0_1 _).mono ?_
  rintro e w3 ⟨rfl, hB⟩
  rewrite [HK.out]
  have A3 : Hd (ExC w w.heap.size a0_0 a0_1 len0_1 cap0_1 bs w3) := ⟨A2.out.below hB⟩
  clear hB A2 R2
  obtain ⟨p0, p1, _, _⟩ := cells2 w3 w.heap.size _ _ _ A3.out.box
  go_wp2_with fail
  refine (toCell_any a0_0 a0_1 len0_1 cap0_1 bs _ A3.out.reads (by omega)).mono ?_
  rintro e w4 ⟨gx, rfl, hg, hR, hB⟩
  have A5 : Hd (ExC w w.heap.size a0_0 a0_1 len0_1 cap0_1 bs (w4.alloc (.cells #[.int .i64 a0_0, .slice (some ⟨gx, 0, none⟩) len0_1 len0_1] 27))) := ⟨(A3.out.below hB).below (below_lit w4 _)⟩
  have X5 : Hd (BoxC w4.heap.size a0_0 (some ⟨gx, 0, none⟩) gx len0_1 len0_1 bs (w4.alloc (.cells #[.int .i64 a0_0, .slice (some ⟨gx, 0, none⟩) len0_1 len0_1] 27))) := ⟨boxC_row hR HL0.out⟩
  generalize hd8 : w4.heap.size = d8 at *
  clear hg hR hB A3 p0 p1
  obtain ⟨p0, p1, _, _⟩ := cells2 (w4.alloc (.cells #[.int .i64 a0_0, .slice (some ⟨gx, 0, none⟩) len0_1 len0_1] 27)) d8 _ _ _ X5.out.box
  go_wp2_with fail
  generalize hw5 : w4.alloc (.cells #[.int .i64 a0_0, .slice (some ⟨gx, 0, none⟩) len0_1 len0_1] 27) = w5 at *
  clear hd8 hw5
  refine (implCellOk_any a0_0 (some ⟨gx, 0, none⟩) len0_1 len0_1 _).mono ?_
  rintro e w11 ⟨rfl, hB⟩
  rewrite [HK.out]
  have A11 : Hd (ExC w w.heap.size a0_0 a0_1 len0_1 cap0_1 bs w11) := ⟨A5.out.below hB⟩
  have X11 : Hd (BoxC d8 a0_0 (some ⟨gx, 0, none⟩) gx len0_1 len0_1 bs w11) := ⟨X5.out.below hB⟩
  clear hB A5 X5 p0 p1
  obtain ⟨p0, p1, _, _⟩ := cells2 w11 d8 _ _ _ X11.out.box
  obtain ⟨q0, q1, _, _⟩ := cells2 w11 w.heap.size _ _ _ A11.out.box
  go_wp2_with fail
  have K11 : Hd (∀ w', Below w11.heap.size w11 w' → (fun w' => (w'.cell? ⟨d8, 0, none⟩ = some (.int .i64 a0_0) ∧ w'.cell? ⟨d8, 1, none⟩ = some (.slice (some ⟨gx, 0, none⟩) len0_1 len0_1)) ∧ w'.cell? ⟨w.heap.size, 0, none⟩ = some (.int .i64 a0_0) ∧ w'.cell? ⟨w.heap.size, 1, none⟩ = some (.slice a0_1 len0_1 cap0_1)) w') := ⟨fun w' hb => ⟨⟨cell_below p0 hb, cell_below p1 hb⟩, cell_below q0 hb, cell_below q1 hb⟩⟩
  go_region_held (fun w' => (w'.cell? ⟨d8, 0, none⟩ = some (.int .i64 a0_0) ∧ w'.cell? ⟨d8, 1, none⟩ = some (.slice (some ⟨gx, 0, none⟩) len0_1 len0_1)) ∧ w'.cell? ⟨w.heap.size, 0, none⟩ = some (.int .i64 a0_0) ∧ w'.cell? ⟨w.heap.size, 1, none⟩ = some (.slice a0_1 len0_1 cap0_1)) (first | assumption | exact K11.out _ (Below.refl _ w11).drew | exact K11.out _ hB13.out | exact K11.out _ hB12.out) (first | (go_at_call 6; refine (toCell_any a0_0 a0_1 len0_1 cap0_1 bs _ ?_ ?_).mono ?_; exact A11.out.reads.below rfl (Below.refl _ w11).drew; omega; rintro e w12 ⟨gt, rfl, _, hR12, hb12⟩; have hB12 : Hd (Below w11.heap.size w11 w12) := ⟨Below.next (Below.refl _ w11).drew hb12⟩; have R12 : Hd (Row w12 gt bs) := ⟨hR12⟩; clear hR12 hb12) | (go_at_call 8; refine (eqCell_true a0_0 (some ⟨gx, 0, none⟩) (some ⟨gt, 0, none⟩) len0_1 len0_1 len0_1 bs _ ?_ ?_ ?_).mono ?_; omega; exact (X11.out.below hB12.out).reads; exact R12.out.reads HL0.out; rintro e w13 ⟨rfl, hb13⟩; have hB13 : Hd (Below w11.heap.size w11 w13) := ⟨Below.next hB12.out hb13⟩; clear hb13))
  have A13 : Hd (ExC w w.heap.size a0_0 a0_1 len0_1 cap0_1 bs w13) := ⟨A11.out.below hB13.out⟩
  clear K11 p0 p1 q0 q1 hB12 hB13 R12 A11 X11
  go_wp2_with fail
  go_ret
  exact ⟨rfl, A13.out.bel⟩

set_option maxRecDepth 100000 in
theorem lifted (os : Os) (started : os.Started) (H : Type) (enc : TypeId × Value → H) :
    ReturnsInHanded {} Try.checked os 3 .any (Rows.fnExactCellOkSpec.pre6 enc Try.prog Try.f3 Rows.fnExactCellOkRow.domain false) (Rows.fnExactCellOkSpec.post enc Try.prog Try.f3 false true false false) := by
  refine returnsInHanded_of_change (C := Try.checked) own started (by kernel_rfl) Try.func3
    (ChangeSpec.witness6 (enc := enc) (C := Try.checked) false ⟨#[], #[.agg #[.int .i64 0, .slice none 0 0]], []⟩ 8 (by kernel_rfl) (by kernel_rfl) (by kernel_rfl) (by kernel_rfl)) ?_
  intro W base args ds gs before hval0 hW hcnd _
  have hval : ∀ (j : Nat) t v, Try.f3.params[j]? = some t → args[j]? = some v → Value.okWide Try.prog W .any base t v := hval0
  have hW' := hW
  obtain ⟨p, q, hA0, hV, rfl, hfz, hnd⟩ := hW
  have hA : DataW.TrodAll enc Try.prog W 0 (fun _ => true) true Try.f3.params.toList args.toList ds p := hA0
  rw [Try.params3] at hA hval
  obtain ⟨v0, vs0, d0, ds0, p0, q0, hargs, rfl, rfl, h0, r0⟩ := trodAll_cons hA
  obtain ⟨rfl, rfl, rfl⟩ := trodAll_nil r0
  obtain rfl : args = #[v0] := by cases args; simp_all
  obtain ⟨rfl, rfl⟩ := trodVars_none hV
  have k0 := h0
  have lt0 : ∀ x ∈ p0, x.block < W.heap.size := by obtain ⟨m, hm⟩ := k0; exact DataW.trod_lt m _ _ _ hm
  obtain ⟨u0_0, u0_1, y0_0, y0_1, n0, rfl, rfl, rfl, h0_0, h0_1⟩ := Joins.open_agg2 Try.underlying24 (by kernel_rfl) (by kernel_rfl) (hval 0 24 v0 rfl rfl) h0
  obtain ⟨a0_0, g0_0, rfl, w0_0⟩ := DataW.trod_int Try.underlying3 h0_0
  simp only [List.cons.injEq, and_true] at g0_0
  subst g0_0
  obtain ⟨a0_1, len0_1, cap0_1, g0_1⟩ := Joins.slice_form Try.underlying22 h0_1
  simp only [List.cons.injEq, and_true] at g0_1
  subst g0_1
  obtain ⟨z0_1, w0_1⟩ : ∃ zs, IsRow .u8 W a0_1 len0_1 cap0_1 zs := by
    rcases open_ints Try.underlying22 Try.underlying5 (by kernel_rfl) h0_1 with ⟨hcs, _⟩ | ⟨x, l, c, zs, hcs, _, hl, hm, hz, _, hcell, hwz⟩
    · simp at hcs
      obtain ⟨rfl, rfl, rfl⟩ := hcs
      exact ⟨[], .inl ⟨rfl, rfl, rfl, rfl⟩⟩
    · simp at hcs
      obtain ⟨rfl, rfl, rfl⟩ := hcs
      exact ⟨zs, .inr ⟨_, rfl, hl, hm, by simpa using hz, hcell, hwz⟩⟩
  clear hA0 hval0
  refine (walk a0_0 w0_0 a0_1 len0_1 cap0_1 z0_1 W w0_1).mono fun e W' ⟨he, hg⟩ => ?_
  subst he
  exact ⟨_, rfl, _, _, _, [], _, [], hW', trodAll_mk1 (shut_bool Try.underlying4 _), (trodAll_cons_mk (Below.trod laidOut (by kernel_rfl) (of_decide_eq_true (by kernel_rfl)) k0 hg lt0) trodAll_mk0), rfl, hg.frame _, fun h => by cases h⟩

theorem over : Rows.fnExactCellOkRow.holds Try.pinned (OpenSpec.ofChange Rows.fnExactCellOkSpec) :=
  OpenClaim.holds_of_wide 3 Try.f3 rfl rfl rfl rfl rfl rfl rfl ⟨rfl, rfl, rfl, rfl, rfl⟩ rfl rfl rfl rfl rfl (by kernel_rfl) Try.func3 (by kernel_rfl)
    (of_decide_eq_true (by kernel_rfl)) (by unfold Func.isWrapper; first | (rw [if_pos (by decide +kernel)]; kernel_rfl) | (rw [if_neg (by decide +kernel)]; exact ⟨rfl, rfl⟩))
    (fun os started H enc _ => lifted os started H enc)

end Go.Proofs.Ytgefabagpcjegaa.fnExactCellOk

namespace Go.Proofs.Ytgefabagpcjegaa
theorem fnExactCellOk_holds : Rows.FnExactCellOkSaid := fnExactCellOk.over
#print axioms fnExactCellOk_holds
end Go.Proofs.Ytgefabagpcjegaa
