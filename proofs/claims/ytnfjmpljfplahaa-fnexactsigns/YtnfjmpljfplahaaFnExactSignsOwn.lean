/- Proved: for every string, laws.FnExactSigns returns true, that is impl.Signs answers as spec.Signs, in memory of its own; no condition. -/
import Derived.Test.YtnfjmpljfplahaaRows
import Derived.WalkKit
import Derived.ProofKit
import Derived.OpenShut
import Derived.ShutString
import Derived.Test.YtnfjmpljfplahaaSignsS
namespace Go.Proofs.Ytnfjmpljfplahaa.fnExactSigns
open Go.ChangeShapes Go.WideShapes Go.ChangeAt Go.RowKit
open Go.ChangeMaps (open_string shut_string)
set_option linter.unusedVariables false

theorem own : ownKnob Try.prog.godebug = none := by kernel_rfl

theorem walk (a0 : ByteArray) (w0 : a0.size ≤ maxLen) (w : World) :
    Calls Try.prog 8 #[.string a0] w fun e w' => e = .returned (.bool true) ∧ Below w.heap.size w w' := by
  by_cases hb : 1048576 < a0.size
  · go_enter Try.func8, Try.ntmps8
    go_wp2_with fail
    go_ret
    exact ⟨rfl, Below.refl _ _⟩
  · clear w0
    go_enter Try.func8, Try.ntmps8
    go_wp2_with fail
    refine (specSigns_any a0 _ (by omega)).mono ?_
    rintro e w1 ⟨gw, cw, l, ok, rfl, hA, hgw, hOw, hB1⟩
    have HA : Hd (SignsAre a0.data.toList l ok) := ⟨hA⟩
    have Hw1 : Hd (RowI w1 gw l) := ⟨hOw.row⟩
    have HB1 : Hd (Below w.heap.size w w1) := ⟨hB1⟩
    have hl : l.length ≤ 1048576 := by have h1 := signsAre_len hA; have h2 : a0.data.toList.length = a0.size := by rw [Array.length_toList]; rfl
                                       omega
    have hgwl : Hd (gw < w1.heap.size) := ⟨hOw.lt⟩
    clear hA hOw hB1 hgw
    go_wp2_with fail
    refine (implSigns_any a0 _ (by omega)).mono ?_
    rintro e w2 ⟨gg, cg, l', ok', rfl, hA', hgg, hOg, hB2⟩
    have hq := signsAre_unique hA' HA.out
    obtain ⟨hq1, hq2⟩ := hq
    subst hq1 hq2
    have Hg2 : Hd (RowI w2 gg l') := ⟨hOg.row⟩
    have Hw2 : Hd (RowI w2 gw l') := ⟨Hw1.out.below hB2⟩
    have HB2 : Hd (Below w.heap.size w w2) := ⟨Below.next HB1.out hB2⟩
    have hne : Hd (gw ≠ gg ∧ w.heap.size ≤ gg) := ⟨by have := hgwl.out; have := HB1.out.size; omega⟩
    have hok : (ok' != ok') = false := by simp
    clear hA' hOg hB2 Hw1 HB1 hgg hgwl
    go_wp2_with fail
    refine (eqIntS_true _ _ _ _ l'.length l' _ (by omega) (Hg2.out.reads rfl) (Hw2.out.reads rfl)).mono ?_
    rintro e w3 ⟨rfl, hB3⟩
    have Hg3 : Hd (RowI w3 gg l') := ⟨Hg2.out.below hB3⟩
    have Hw3 : Hd (RowI w3 gw l') := ⟨Hw2.out.below hB3⟩
    have HB3 : Hd (Below w.heap.size w w3) := ⟨Below.next HB2.out hB3⟩
    clear hB3 Hg2 Hw2 HB2
    go_wp2_with fail
    refine (markIntS_any _ l'.length _ 1 l' _ rfl Hg3.out (by omega) (by omega)).mono ?_
    rintro e w4 ⟨rfl, hR4, hG4⟩
    have Hg4 : Hd (RowI w4 gg (marksI 1 l'.length)) := ⟨hR4⟩
    have Hw4 : Hd (RowI w4 gw l') := ⟨Hw3.out.grown hG4 hne.out.1⟩
    have HB4 : Hd (Below w.heap.size w w4) := ⟨HB3.out.grown hG4 HB3.out.size (fun q h => by simp at h; have := hne.out.2; omega)⟩
    clear hR4 hG4 Hg3 Hw3 HB3
    go_wp2_with fail
    refine (heldIntS_any _ l'.length _ 1 _ Hg4.out (by omega) (by omega)).mono ?_
    rintro e w5 ⟨rfl, hw5⟩
    subst hw5
    have hq : ¬ (((1 + l'.length : Nat) : Int) < 0) := by omega
    have hqm : (((1 + l'.length : Nat) : Int) != ((1 + l'.length : Nat) : Int)) = false := by simp
    go_wp2_with fail
    refine (implSigns_any a0 _ (by omega)).mono ?_
    rintro e w6 ⟨gh, ch, l2, ok2, rfl, hA6, _, hOh, hB6⟩
    have hq6 := signsAre_unique hA6 HA.out
    obtain ⟨hq1, hq2⟩ := hq6
    subst hq1 hq2
    have Hg6 := Hg4.out.below hB6
    have Hg6' : Hd (RowI w6 gg (marksI 1 l2.length)) := ⟨Hg6⟩
    have Hw6 : Hd (RowI w6 gw l2) := ⟨Hw4.out.below hB6⟩
    have Hh6 : Hd (RowI w6 gh l2) := ⟨hOh.row⟩
    have HB6 : Hd (Below w.heap.size w w6) := ⟨Below.next HB4.out hB6⟩
    clear hA6 hOh hB6 Hg4 Hw4 HB4 Hg6
    go_wp2_with fail
    refine (eqIntS_true _ _ _ _ l2.length l2 _ (by omega) (Hh6.out.reads rfl) (Hw6.out.reads rfl)).mono ?_
    rintro e w7 ⟨rfl, hB7⟩
    have Hg7 : Hd (RowI w7 gg (marksI 1 l2.length)) := ⟨Hg6'.out.below hB7⟩
    have HB7 : Hd (Below w.heap.size w w7) := ⟨Below.next HB6.out hB7⟩
    clear hB7 Hg6' Hw6 Hh6 HB6
    go_wp2_with fail
    refine (heldIntS_any _ l2.length _ 1 _ Hg7.out (by omega) (by omega)).mono ?_
    rintro e w8 ⟨rfl, hw8⟩
    subst hw8
    go_wp2_with fail
    go_ret
    exact ⟨rfl, HB7.out⟩

set_option maxRecDepth 100000 in
theorem lifted (os : Os) (started : os.Started) (H : Type) (enc : TypeId × Value → H) :
    ReturnsInHanded {} Try.checked os 8 .any (Rows.fnExactSignsSpec.pre6 enc Try.prog Try.f8 Rows.fnExactSignsRow.domain false) (Rows.fnExactSignsSpec.post enc Try.prog Try.f8 false true false false) := by
  refine returnsInHanded_of_change (C := Try.checked) own started (by kernel_rfl) Try.func8
    (ChangeSpec.witness6 (enc := enc) (C := Try.checked) false ⟨#[], #[.string ByteArray.empty], []⟩ 8 (by kernel_rfl) (by kernel_rfl) (by kernel_rfl) (by kernel_rfl)) ?_
  intro W base args ds gs before hval0 hW hcnd _
  have hval : ∀ (j : Nat) t v, Try.f8.params[j]? = some t → args[j]? = some v → Value.okWide Try.prog W .any base t v := hval0
  have hW' := hW
  obtain ⟨p, q, hA0, hV, rfl, hfz, hnd⟩ := hW
  have hA : DataW.TrodAll enc Try.prog W 0 (fun _ => true) true Try.f8.params.toList args.toList ds p := hA0
  rw [Try.params8] at hA hval
  obtain ⟨v0, vs0, d0, ds0, p0, q0, hargs, rfl, rfl, h0, r0⟩ := trodAll_cons hA
  obtain ⟨rfl, rfl, rfl⟩ := trodAll_nil r0
  obtain rfl : args = #[v0] := by cases args; simp_all
  obtain ⟨rfl, rfl⟩ := trodVars_none hV
  obtain ⟨a0, rfl, rfl, rfl, w0⟩ := open_string Try.underlying9 (hval 0 9 v0 rfl rfl) h0
  clear hA0 hval0
  simp only [List.append_nil] at hW'
  refine (walk a0 w0 W).mono fun e W' ⟨he, hg⟩ => ?_
  subst he
  exact ⟨_, rfl, _, _, _, [], _, [], hW', trodAll_mk1 (shut_bool Try.underlying4 _), (trodAll_cons_mk (shut_string Try.underlying9 w0) trodAll_mk0), rfl, hg.frame _, fun h => by cases h⟩

theorem over : Rows.fnExactSignsRow.holds Try.pinned (OpenSpec.ofChange Rows.fnExactSignsSpec) :=
  OpenClaim.holds_of_wide 8 Try.f8 rfl rfl rfl rfl rfl rfl rfl ⟨rfl, rfl, rfl, rfl, rfl⟩ rfl rfl rfl rfl rfl (by kernel_rfl) Try.func8 (by kernel_rfl)
    (of_decide_eq_true (by kernel_rfl)) (by unfold Func.isWrapper; first | (rw [if_pos (by decide +kernel)]; kernel_rfl) | (rw [if_neg (by decide +kernel)]; exact ⟨rfl, rfl⟩))
    (fun os started H enc _ => lifted os started H enc)

end Go.Proofs.Ytnfjmpljfplahaa.fnExactSigns

namespace Go.Proofs.Ytnfjmpljfplahaa
theorem fnExactSigns_holds : Rows.FnExactSignsSaid := fnExactSigns.over
#print axioms fnExactSigns_holds
end Go.Proofs.Ytnfjmpljfplahaa
