/- For every number the program DecNew answers as its specification, and its answer owns its memory. -/
import Derived.Test.YtjbideiifoadkaaRows
import Derived.WalkKit
import Derived.ProofKit
import Derived.OpenShut
import Derived.ShutString
import Derived.Test.YtjbideiifoadkaaDecN
namespace Go.Proofs.Ytjbideiifoadkaa.fnExactDecNew
open Go.ChangeShapes Go.WideShapes Go.ChangeAt Go.RowKit
open Go.ChangeMaps (open_string shut_string)
set_option linter.unusedVariables false

theorem own : ownKnob Try.prog.godebug = none := by kernel_rfl

set_option maxHeartbeats 4000000 in
theorem walk (a0 : Int) (w0 : (Lit.int .i64 a0).wf = true) (w : World) :
    Calls Try.prog 3 #[.int .i64 a0] w fun e w' => e = .returned (.bool true) ∧ Below w.heap.size w w' := by
  go_enter Try.func3, Try.ntmps3
  go_wp2_with fail
  refine (specDecNew_nil a0 _).mono ?_
  rintro e w1 ⟨rfl, hB⟩
  have B1 : Hd (Below w.heap.size w (w1.alloc (.cells #[.int .i64 a0, .slice none 0 0, .bool false] 24))) := ⟨Below.next hB (below_lit w1 _)⟩
  have W1 : Hd ((w1.alloc (.cells #[.int .i64 a0, .slice none 0 0, .bool false] 24)).heap[w1.heap.size]? = some (.cells #[.int .i64 a0, .slice none 0 0, .bool false] 24 (0, 0))) := ⟨alloc_new w1 _ rfl⟩
  generalize hd1 : w1.heap.size = d1 at *
  clear hB
  go_wp2_with fail
  generalize hw2 : w1.alloc (.cells #[.int .i64 a0, .slice none 0 0, .bool false] 24) = w2 at *
  clear hd1 hw2
  refine (implDecNew_nil a0 _).mono ?_
  rintro e w3 ⟨rfl, hB⟩
  have B3 : Hd (Below w.heap.size w (w3.alloc (.cells #[.int .i64 a0, .slice none 0 0, .bool false] 24))) := ⟨Below.next (Below.next B1.out hB) (below_lit w3 _)⟩
  have W3 : Hd ((w3.alloc (.cells #[.int .i64 a0, .slice none 0 0, .bool false] 24)).heap[d1]? = some (.cells #[.int .i64 a0, .slice none 0 0, .bool false] 24 (0, 0))) := ⟨box_below (box_below W1.out hB) (below_lit w3 _)⟩
  have G3 : Hd ((w3.alloc (.cells #[.int .i64 a0, .slice none 0 0, .bool false] 24)).heap[w3.heap.size]? = some (.cells #[.int .i64 a0, .slice none 0 0, .bool false] 24 (0, 0))) := ⟨alloc_new w3 _ rfl⟩
  generalize hd3 : w3.heap.size = d3 at *
  clear hB B1 W1
  obtain ⟨p0, p1, p2, _, _, _⟩ := cells3 (w3.alloc (.cells #[.int .i64 a0, .slice none 0 0, .bool false] 24)) d1 _ _ _ _ W3.out
  obtain ⟨q0, q1, q2, _, _, _⟩ := cells3 (w3.alloc (.cells #[.int .i64 a0, .slice none 0 0, .bool false] 24)) d3 _ _ _ _ G3.out
  go_wp2_with fail
  generalize hw4 : w3.alloc (.cells #[.int .i64 a0, .slice none 0 0, .bool false] 24) = w4 at *
  clear hd3 hw4
  refine (eqDec_nil a0 _).mono ?_
  rintro e w5 ⟨rfl, hB⟩
  have B5 : Hd (Below w.heap.size w w5) := ⟨Below.next B3.out hB⟩
  have W5 : Hd (w5.heap[d1]? = some (.cells #[.int .i64 a0, .slice none 0 0, .bool false] 24 (0, 0))) := ⟨box_below W3.out hB⟩
  have G5 : Hd (w5.heap[d3]? = some (.cells #[.int .i64 a0, .slice none 0 0, .bool false] 24 (0, 0))) := ⟨box_below G3.out hB⟩
  clear hB B3 W3 G3 p0 p1 p2 q0 q1 q2
  obtain ⟨p0, p1, p2, _, _, _⟩ := cells3 w5 d1 _ _ _ _ W5.out
  obtain ⟨q0, q1, q2, _, _, _⟩ := cells3 w5 d3 _ _ _ _ G5.out
  go_wp2_with fail
  refine (markDec_nil a0 0 1 false _).mono ?_
  rintro e w6 ⟨rfl, hB⟩
  have B6 : Hd (Below w.heap.size w w6) := ⟨Below.next B5.out hB⟩
  have W6 : Hd (w6.heap[d1]? = some (.cells #[.int .i64 a0, .slice none 0 0, .bool false] 24 (0, 0))) := ⟨box_below W5.out hB⟩
  have G6 : Hd (w6.heap[d3]? = some (.cells #[.int .i64 a0, .slice none 0 0, .bool false] 24 (0, 0))) := ⟨box_below G5.out hB⟩
  clear hB B5 W5 G5 p0 p1 p2 q0 q1 q2
  obtain ⟨p0, p1, p2, _, _, _⟩ := cells3 w6 d1 _ _ _ _ W6.out
  obtain ⟨q0, q1, q2, _, _, _⟩ := cells3 w6 d3 _ _ _ _ G6.out
  go_wp2_with fail
  refine (heldDec_one a0 0 false _).mono ?_
  rintro e w7 ⟨rfl, hB⟩
  have B7 : Hd (Below w.heap.size w w7) := ⟨Below.next B6.out hB⟩
  have W7 : Hd (w7.heap[d1]? = some (.cells #[.int .i64 a0, .slice none 0 0, .bool false] 24 (0, 0))) := ⟨box_below W6.out hB⟩
  have G7 : Hd (w7.heap[d3]? = some (.cells #[.int .i64 a0, .slice none 0 0, .bool false] 24 (0, 0))) := ⟨box_below G6.out hB⟩
  clear hB B6 W6 G6 p0 p1 p2 q0 q1 q2
  obtain ⟨p0, p1, p2, _, _, _⟩ := cells3 w7 d1 _ _ _ _ W7.out
  obtain ⟨q0, q1, q2, _, _, _⟩ := cells3 w7 d3 _ _ _ _ G7.out
  go_wp2_with fail
  refine (implDecNew_nil a0 _).mono ?_
  rintro e w8 ⟨rfl, hB⟩
  have B8 : Hd (Below w.heap.size w (w8.alloc (.cells #[.int .i64 a0, .slice none 0 0, .bool false] 24))) := ⟨Below.next (Below.next B7.out hB) (below_lit w8 _)⟩
  have W8 : Hd ((w8.alloc (.cells #[.int .i64 a0, .slice none 0 0, .bool false] 24)).heap[d1]? = some (.cells #[.int .i64 a0, .slice none 0 0, .bool false] 24 (0, 0))) := ⟨box_below (box_below W7.out hB) (below_lit w8 _)⟩
  have G8 : Hd ((w8.alloc (.cells #[.int .i64 a0, .slice none 0 0, .bool false] 24)).heap[d3]? = some (.cells #[.int .i64 a0, .slice none 0 0, .bool false] 24 (0, 0))) := ⟨box_below (box_below G7.out hB) (below_lit w8 _)⟩
  have H8 : (w8.alloc (.cells #[.int .i64 a0, .slice none 0 0, .bool false] 24)).heap[w8.heap.size]? = some (.cells #[.int .i64 a0, .slice none 0 0, .bool false] 24 (0, 0)) := alloc_new w8 _ rfl
  clear hB B7 W7 G7 p0 p1 p2 q0 q1 q2
  generalize hd8 : w8.heap.size = d8 at *
  obtain ⟨p0, p1, p2, _, _, _⟩ := cells3 (w8.alloc (.cells #[.int .i64 a0, .slice none 0 0, .bool false] 24)) d1 _ _ _ _ W8.out
  obtain ⟨q0, q1, q2, _, _, _⟩ := cells3 (w8.alloc (.cells #[.int .i64 a0, .slice none 0 0, .bool false] 24)) d8 _ _ _ _ H8
  clear H8
  go_wp2_with fail
  generalize hw9 : w8.alloc (.cells #[.int .i64 a0, .slice none 0 0, .bool false] 24) = w9 at *
  clear hd8 hw9
  refine (eqDec_nil a0 _).mono ?_
  rintro e w10 ⟨rfl, hB⟩
  have B10 : Hd (Below w.heap.size w w10) := ⟨Below.next B8.out hB⟩
  have W10 : Hd (w10.heap[d1]? = some (.cells #[.int .i64 a0, .slice none 0 0, .bool false] 24 (0, 0))) := ⟨box_below W8.out hB⟩
  have G10 : Hd (w10.heap[d3]? = some (.cells #[.int .i64 a0, .slice none 0 0, .bool false] 24 (0, 0))) := ⟨box_below G8.out hB⟩
  clear hB B8 W8 G8 p0 p1 p2 q0 q1 q2
  obtain ⟨p0, p1, p2, _, _, _⟩ := cells3 w10 d1 _ _ _ _ W10.out
  obtain ⟨q0, q1, q2, _, _, _⟩ := cells3 w10 d3 _ _ _ _ G10.out
  go_wp2_with fail
  refine (heldDec_one a0 0 false _).mono ?_
  rintro e w11 ⟨rfl, hB⟩
  have B11 : Hd (Below w.heap.size w w11) := ⟨Below.next B10.out hB⟩
  have W11 : Hd (w11.heap[d1]? = some (.cells #[.int .i64 a0, .slice none 0 0, .bool false] 24 (0, 0))) := ⟨box_below W10.out hB⟩
  have G11 : Hd (w11.heap[d3]? = some (.cells #[.int .i64 a0, .slice none 0 0, .bool false] 24 (0, 0))) := ⟨box_below G10.out hB⟩
  clear hB B10 W10 G10 p0 p1 p2 q0 q1 q2
  obtain ⟨p0, p1, p2, _, _, _⟩ := cells3 w11 d1 _ _ _ _ W11.out
  obtain ⟨q0, q1, q2, _, _, _⟩ := cells3 w11 d3 _ _ _ _ G11.out
  go_wp2_with fail
  go_ret
  exact ⟨rfl, B11.out⟩

set_option maxRecDepth 100000 in
theorem lifted (os : Os) (started : os.Started) (H : Type) (enc : TypeId × Value → H) :
    ReturnsInHanded {} Try.checked os 3 .any (Rows.fnExactDecNewSpec.pre6 enc Try.prog Try.f3 Rows.fnExactDecNewRow.domain false) (Rows.fnExactDecNewSpec.post enc Try.prog Try.f3 false true false false) := by
  refine returnsInHanded_of_change (C := Try.checked) own started (by kernel_rfl) Try.func3
    (ChangeSpec.witness6 (enc := enc) (C := Try.checked) false ⟨#[], #[.int .i64 0], []⟩ 8 (by kernel_rfl) (by kernel_rfl) (by kernel_rfl) (by kernel_rfl)) ?_
  intro W base args ds gs before hval0 hW hcnd _
  have hval : ∀ (j : Nat) t v, Try.f3.params[j]? = some t → args[j]? = some v → Value.okWide Try.prog W .any base t v := hval0
  have hW' := hW
  obtain ⟨p, q, hA0, hV, rfl, hfz, hnd⟩ := hW
  have hA : DataW.TrodAll enc Try.prog W 0 (fun _ => true) true Try.f3.params.toList args.toList ds p := hA0
  rw [Try.params3] at hA hval
  obtain ⟨v0, vs0, d0, ds0, p0, q0, hargs, rfl, rfl, h0, r0⟩ := trodAll_cons hA
  obtain ⟨rfl, rfl, rfl⟩ := trodAll_nil r0
  obtain rfl : args = #[v0] := by cases args; simp_all
  obtain ⟨rfl, rfl⟩ := trodVars_none hV
  obtain ⟨a0, rfl, rfl, rfl, w0⟩ := open_int Try.underlying3 (hval 0 3 v0 rfl rfl) h0
  clear hA0 hval0
  simp only [List.append_nil] at hW'
  refine (walk a0 w0 W).mono fun e W' ⟨he, hg⟩ => ?_
  subst he
  exact ⟨_, rfl, _, _, _, [], _, [], hW', trodAll_mk1 (shut_bool Try.underlying4 _), (trodAll_cons_mk (shut_int Try.underlying3 w0) trodAll_mk0), rfl, hg.frame _, fun h => by cases h⟩

theorem over : Rows.fnExactDecNewRow.holds Try.pinned (OpenSpec.ofChange Rows.fnExactDecNewSpec) :=
  OpenClaim.holds_of_wide 3 Try.f3 rfl rfl rfl rfl rfl rfl rfl ⟨rfl, rfl, rfl, rfl, rfl⟩ rfl rfl rfl rfl rfl (by kernel_rfl) Try.func3 (by kernel_rfl)
    (of_decide_eq_true (by kernel_rfl)) (by unfold Func.isWrapper; first | (rw [if_pos (by decide +kernel)]; kernel_rfl) | (rw [if_neg (by decide +kernel)]; exact ⟨rfl, rfl⟩))
    (fun os started H enc _ => lifted os started H enc)

end Go.Proofs.Ytjbideiifoadkaa.fnExactDecNew

namespace Go.Proofs.Ytjbideiifoadkaa
theorem fnExactDecNew_holds : Rows.FnExactDecNewSaid := fnExactDecNew.over
#print axioms fnExactDecNew_holds
end Go.Proofs.Ytjbideiifoadkaa
