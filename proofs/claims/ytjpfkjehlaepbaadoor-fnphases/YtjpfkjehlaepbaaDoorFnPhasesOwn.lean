/- FnPhases holds: whatever is drawn, of what may follow nothing leads back, and from each phase that is not final a final one is reached. -/
import Derived.Test.YtjpfkjehlaepbaaDoorCards
import Derived.Test.YtjpfkjehlaepbaaDoorTie
import Derived.WalkKit
import Derived.ProofKit
import Derived.OpenShut
import Derived.ShutString
import Derived.ChangeOld
import Derived.Below
import Derived.OpenVars
import Derived.Lay
import Derived.MakeChecks
import Derived.SevenTiedAt
import Derived.Stop.Joined
import Derived.Lib.SmallJoins
import Derived.Test.YtjpfkjehlaepbaaDoorPhaseL
import Derived.Test.YtjpfkjehlaepbaaDoorPhaseW
namespace Go.Proofs.YtjpfkjehlaepbaaDoor.fnPhases
open Go.ChangeShapes Go.WideShapes Go.ChangeAt Go.RowKit
open Go.ChangeMaps (open_string shut_string)
set_option linter.unusedVariables false

theorem own : ownKnob Tryd.prog.godebug = none := by kernel_rfl
theorem laidOut : laidOutB Tryd.prog = true := by kernel_rfl

def IsRow (k : IntKind) (w : World) (a : Option Addr) (len cap : Nat) (zs : List Int) : Prop :=
  (a = none ∧ len = 0 ∧ cap = 0 ∧ zs = []) ∨
  ∃ x, a = some x ∧ len ≤ cap ∧ cap ≤ maxLen ∧ zs.length = cap ∧ (∀ i, i < zs.length → w.cell? (x.add i) = some (.int k (zs.getD i 0))) ∧ ∀ n ∈ zs, (Lit.int k n).wf = true

set_option maxHeartbeats 8000000 in
theorem walk (a0 : Option Addr) (len0 cap0 : Nat) (z0 : List Int) (w : World) (w0 : IsRow .u8 w a0 len0 cap0 z0) (T : Hd (PhAt w)) :
    Calls Tryd.prog 3 #[.slice a0 len0 cap0] w fun e w' => e = .returned (.bool true) ∧ Below w.heap.size w w' := by
  obtain ⟨bs, hr⟩ := reads_of_row w0
  have K0 : Hd (PhStays w a0 len0 bs w) := ⟨PhStays.start T.out hr⟩
  clear hr w0 T
  by_cases hb : (1048576 : Int) < (len0 : Int)
  · have hbd : decide ((1048576 : Int) < (len0 : Int)) = true := decide_eq_true hb
    go_enter Tryd.func3, Tryd.ntmps3
    go_wp2_with (go_at_call 6; refine (big_any _ _ _ _).mono ?_; rintro e w' ⟨rfl, rfl⟩)
    go_ret
    exact ⟨rfl, Below.refl _ _⟩
  · have hbd : decide ((1048576 : Int) < (len0 : Int)) = false := decide_eq_false hb
    have hl : len0 ≤ 1073741824 := by omega
    go_enter Tryd.func3, Tryd.ntmps3
    go_wp2_with fail
    refine (big_any _ _ _ _).mono ?_
    rintro e v ⟨rfl, hw⟩
    replace hw := hw.symm
    subst hw
    go_wp2_with fail
    refine (at_two a0 len0 cap0 bs _ hl K0.out.reads).mono ?_
    rintro e v ⟨rfl, hw⟩
    replace hw := hw.symm
    subst hw
    obtain ⟨k, hk⟩ : ∃ k, k = atV bs 2 % 8 := ⟨_, rfl⟩
    have k1 : Hd (k < 8) := ⟨by rw [hk]; exact Nat.mod_lt _ (by omega)⟩
    have k2 : (atV bs 2 : Int) % 8 = (k : Int) := by rw [hk]; simp
    have k3 : ((atV bs 2 : Int)).tmod 8 = (k : Int) := by rw [Int.tmod_eq_emod_of_nonneg (by omega)]; exact k2
    clear hk
    go_wp2_with fail
    refine (at_three a0 len0 cap0 bs _ hl K0.out.reads).mono ?_
    rintro e v ⟨rfl, hw⟩
    replace hw := hw.symm
    subst hw
    obtain ⟨q, hq⟩ : ∃ q, q = atV bs 3 % 8 := ⟨_, rfl⟩
    have q1 : Hd (q < 8) := ⟨by rw [hq]; exact Nat.mod_lt _ (by omega)⟩
    have q2 : (atV bs 3 : Int) % 8 = (q : Int) := by rw [hq]; simp
    have q3 : ((atV bs 3 : Int)).tmod 8 = (q : Int) := by rw [Int.tmod_eq_emod_of_nonneg (by omega)]; exact q2
    clear hq
    go_wp2_with fail
    refine (drawNextOk_any a0 len0 cap0 bs _ hl K0.out.reads).mono ?_
    rintro e v1 ⟨x, y, rfl, hB⟩
    have K1 : Hd (PhStays w a0 len0 bs v1) := ⟨K0.out.next hB⟩
    clear hB K0
    clear k2 k3 q2 q3
    go_wp2_with fail
    refine (drawReaches_any a0 len0 cap0 bs _ hl K1.out.reads).mono ?_
    rintro e v2 ⟨u, v, rfl, hB⟩
    have K2 : Hd (PhStays w a0 len0 bs v2) := ⟨K1.out.next hB⟩
    clear hB K1
    go_wp2_with fail
    refine (drawFinal_any a0 len0 cap0 bs _ hl K2.out.reads).mono ?_
    rintro e v3 ⟨f, rfl, hB⟩
    have K3 : Hd (PhStays w a0 len0 bs v3) := ⟨K2.out.next hB⟩
    clear hB K2
    go_wp2_with fail
    refine (drawWalks_any a0 len0 cap0 bs _ hl K3.out.reads).mono ?_
    rintro e v4 ⟨m, rfl, hB⟩
    have K4 : Hd (PhStays w a0 len0 bs v4) := ⟨K3.out.next hB⟩
    clear hB K3
    go_wp2_with fail
    refine (drawPhaseName_any a0 len0 cap0 bs _ hl K4.out.reads).mono ?_
    rintro e v5 ⟨p, rfl, hB⟩
    have K5 : Hd (PhStays w a0 len0 bs v5) := ⟨K4.out.next hB⟩
    clear hB K4
    go_wp2_with fail
    refine (drawPhaseOf_any a0 len0 cap0 bs _ hl K5.out.reads).mono ?_
    rintro e v6 ⟨s, rfl, hB⟩
    have K6 : Hd (PhStays w a0 len0 bs v6) := ⟨K5.out.next hB⟩
    clear hB K5
    obtain ⟨c1, hc1⟩ : ∃ c1, nextB x y = c1 := ⟨_, rfl⟩
    have Hc1 : Hd (nextB x y = c1) := ⟨hc1⟩
    clear hc1
    obtain ⟨c2, hc2⟩ : ∃ c2, reaB u v = c2 := ⟨_, rfl⟩
    have Hc2 : Hd (reaB u v = c2) := ⟨hc2⟩
    clear hc2
    obtain ⟨c3, hc3⟩ : ∃ c3, finB f = c3 := ⟨_, rfl⟩
    have Hc3 : Hd (finB f = c3) := ⟨hc3⟩
    clear hc3
    obtain ⟨c4, hc4⟩ : ∃ c4, walB m = c4 := ⟨_, rfl⟩
    have Hc4 : Hd (walB m = c4) := ⟨hc4⟩
    clear hc4
    obtain ⟨c5, hc5⟩ : ∃ c5, phName p = c5 := ⟨_, rfl⟩
    have Hc5 : Hd (phName p = c5) := ⟨hc5⟩
    clear hc5
    obtain ⟨c6, hc6⟩ : ∃ c6, phOf s = c6 := ⟨_, rfl⟩
    have Hc6 : Hd (phOf s = c6) := ⟨hc6⟩
    clear hc6
    have ec1 : (c1 != c1) = false := by simp
    have ec2 : (c2 != c2) = false := by simp
    have ec3 : (c3 != c3) = false := by simp
    have ec4 : (c4 != c4) = false := by simp
    have ec6 : (c6 != c6) = false := by simp
    have ec5 : (c5.toList != c5.toList) = false := by simp
    have ed5 : (c5.toList == c5.toList) = true := by simp
    go_wp2_with fail
    refine (implNextOk_is Hc1 _).mono ?_
    rintro e v ⟨rfl, hw⟩
    replace hw := hw.symm
    subst hw
    go_wp2_with fail
    refine (specNextOk_is Hc1 _).mono ?_
    rintro e v ⟨rfl, hw⟩
    replace hw := hw.symm
    subst hw
    go_wp2_with fail
    refine (implReaches_is Hc2 _).mono ?_
    rintro e v ⟨rfl, hw⟩
    replace hw := hw.symm
    subst hw
    go_wp2_with fail
    refine (specReaches_is Hc2 _).mono ?_
    rintro e v ⟨rfl, hw⟩
    replace hw := hw.symm
    subst hw
    go_wp2_with fail
    refine (implFinal_is Hc3 _).mono ?_
    rintro e v ⟨rfl, hw⟩
    replace hw := hw.symm
    subst hw
    go_wp2_with fail
    refine (specFinal_is Hc3 _).mono ?_
    rintro e v ⟨rfl, hw⟩
    replace hw := hw.symm
    subst hw
    go_wp2_with fail
    refine (implWalks_is Hc4 _).mono ?_
    rintro e v ⟨rfl, hw⟩
    replace hw := hw.symm
    subst hw
    go_wp2_with fail
    refine (specWalks_is Hc4 _).mono ?_
    rintro e v ⟨rfl, hw⟩
    replace hw := hw.symm
    subst hw
    go_wp2_with fail
    refine (implPhaseName_is Hc5 _ K6.out.names).mono ?_
    rintro e v ⟨rfl, hw⟩
    replace hw := hw.symm
    subst hw
    go_wp2_with fail
    refine (specPhaseName_is Hc5 _).mono ?_
    rintro e v7 ⟨rfl, hB⟩
    have K7 : Hd (PhStays w a0 len0 bs v7) := ⟨K6.out.next hB⟩
    clear hB K6
    go_wp2_with fail
    refine (implPhaseOf_is Hc6 _ K7.out.names).mono ?_
    rintro e v ⟨rfl, hw⟩
    replace hw := hw.symm
    subst hw
    go_wp2_with fail
    refine (specPhaseOf_is Hc6 _).mono ?_
    rintro e v8 ⟨rfl, hB⟩
    have K8 : Hd (PhStays w a0 len0 bs v8) := ⟨K7.out.next hB⟩
    clear hB K7
    clear Hc1 Hc2 Hc3 Hc4 Hc5 Hc6 ec1 ec2 ec3 ec4 ec5 ec6 ed5
    cases hn : nextB (k : Int) (q : Int) with
    | true =>
      have HN : Hd (nextB (k : Int) (q : Int) = true) := ⟨hn⟩
      clear hn
      have R1 : Hd (reaB (q : Int) (k : Int) = false) := ⟨(next_law HN.out).1⟩
      have R2 : Hd (reaB (k : Int) (q : Int) = true) := ⟨(next_law HN.out).2.1⟩
      have R3 : Hd (finB (k : Int) = false) := ⟨(next_law HN.out).2.2⟩
      cases h5 : reaB (k : Int) 5 with
      | true =>
        have H5 : Hd (reaB (k : Int) 5 = true) := ⟨h5⟩
        clear h5
        go_wp2_with fail
        refine (implNextOk_is HN _).mono ?_
        rintro e v ⟨rfl, hw⟩
        replace hw := hw.symm
        subst hw
        go_wp2_with fail
        refine (implReaches_is R1 _).mono ?_
        rintro e v ⟨rfl, hw⟩
        replace hw := hw.symm
        subst hw
        go_wp2_with fail
        refine (implReaches_is R2 _).mono ?_
        rintro e v ⟨rfl, hw⟩
        replace hw := hw.symm
        subst hw
        go_wp2_with fail
        refine (implFinal_is R3 _).mono ?_
        rintro e v ⟨rfl, hw⟩
        replace hw := hw.symm
        subst hw
        go_wp2_with fail
        refine (implReaches_is H5 _).mono ?_
        rintro e v ⟨rfl, hw⟩
        replace hw := hw.symm
        subst hw
        go_wp2_with fail
        go_ret
        exact ⟨rfl, K8.out.below⟩
      | false =>
        have H5 : Hd (reaB (k : Int) 5 = false) := ⟨h5⟩
        have H7 : Hd (reaB (k : Int) 7 = true) := ⟨rea_final (by omega) (by have := k1.out; omega) h5⟩
        clear h5
        go_wp2_with fail
        refine (implNextOk_is HN _).mono ?_
        rintro e v ⟨rfl, hw⟩
        replace hw := hw.symm
        subst hw
        go_wp2_with fail
        refine (implReaches_is R1 _).mono ?_
        rintro e v ⟨rfl, hw⟩
        replace hw := hw.symm
        subst hw
        go_wp2_with fail
        refine (implReaches_is R2 _).mono ?_
        rintro e v ⟨rfl, hw⟩
        replace hw := hw.symm
        subst hw
        go_wp2_with fail
        refine (implFinal_is R3 _).mono ?_
        rintro e v ⟨rfl, hw⟩
        replace hw := hw.symm
        subst hw
        go_wp2_with fail
        refine (implReaches_is H5 _).mono ?_
        rintro e v ⟨rfl, hw⟩
        replace hw := hw.symm
        subst hw
        go_wp2_with fail
        refine (implReaches_is H7 _).mono ?_
        rintro e v ⟨rfl, hw⟩
        replace hw := hw.symm
        subst hw
        go_wp2_with fail
        go_ret
        exact ⟨rfl, K8.out.below⟩
    | false =>
      have HN : Hd (nextB (k : Int) (q : Int) = false) := ⟨hn⟩
      clear hn
      cases h5 : reaB (k : Int) 5 with
      | true =>
        have H5 : Hd (reaB (k : Int) 5 = true) := ⟨h5⟩
        clear h5
        go_wp2_with fail
        refine (implNextOk_is HN _).mono ?_
        rintro e v ⟨rfl, hw⟩
        replace hw := hw.symm
        subst hw
        go_wp2_with fail
        refine (implReaches_is H5 _).mono ?_
        rintro e v ⟨rfl, hw⟩
        replace hw := hw.symm
        subst hw
        go_wp2_with fail
        go_ret
        exact ⟨rfl, K8.out.below⟩
      | false =>
        have H5 : Hd (reaB (k : Int) 5 = false) := ⟨h5⟩
        have H7 : Hd (reaB (k : Int) 7 = true) := ⟨rea_final (by omega) (by have := k1.out; omega) h5⟩
        clear h5
        go_wp2_with fail
        refine (implNextOk_is HN _).mono ?_
        rintro e v ⟨rfl, hw⟩
        replace hw := hw.symm
        subst hw
        go_wp2_with fail
        refine (implReaches_is H5 _).mono ?_
        rintro e v ⟨rfl, hw⟩
        replace hw := hw.symm
        subst hw
        go_wp2_with fail
        refine (implReaches_is H7 _).mono ?_
        rintro e v ⟨rfl, hw⟩
        replace hw := hw.symm
        subst hw
        go_wp2_with fail
        go_ret
        exact ⟨rfl, K8.out.below⟩

set_option maxRecDepth 100000 in
theorem lifted (os : Os) (started : os.Started) (H : Type) (enc : TypeId × Value → H) :
    ReturnsInHanded {} Tryd.checked os 3 .any (fun w args => (Rows.fnPhasesSpec.pre enc Tryd.prog Tryd.f3 Rows.fnPhasesRow.domain false w args ∧ laidMetH Tryd.prog Rows.fnPhasesRow.laid w) ∧ sizedMet enc Tryd.prog Tryd.f3 (OpenSpec.ofChange Rows.fnPhasesSpec) false w args)
      (Rows.fnPhasesSpec.post enc Tryd.prog Tryd.f3 false true false false) := by
  refine returnsInHanded_of_change_and (C := Tryd.checked) (X := fun w _ => laidMetH Tryd.prog Rows.fnPhasesRow.laid w) (fun _ _ _ hh h => h.of_heap hh) own started (by kernel_rfl) Tryd.func3
    (ChangeSpec.witness_shaped (enc := enc) (C := Tryd.checked) (os := os) (X := fun w _ => laidMetH Tryd.prog Rows.fnPhasesRow.laid w) false (World.laidAll Tryd.prog os Rows.fnPhasesRow.laid) #[.slice none 0 0] 8 (World.laidAll_os _ _ _)
      (World.shaped_of_ZipB (by kernel_rfl) (by kernel_rfl)) (by kernel_rfl) (by kernel_rfl) (by kernel_rfl)
      (by rw [MakeChecks.laidMetH_plain _ _ _ (by kernel_rfl)]; exact laidMet_laidAll _ (by kernel_rfl) (by kernel_rfl))) ?_
  intro W base args ds gs before hval0 hW _ _ hL _
  have hval : ∀ (j : Nat) t v, Tryd.f3.params[j]? = some t → args[j]? = some v → Value.okWide Tryd.prog W .any base t v := hval0
  have hW' := hW
  obtain ⟨p, q, hA0, hV, rfl, hfz, hnd⟩ := hW
  have hA : DataW.TrodAll enc Tryd.prog W 0 (fun _ => true) true Tryd.f3.params.toList args.toList ds p := hA0
  rw [Tryd.params3] at hA hval
  obtain ⟨v0, vs0, d0, ds0, p0, q0, hargs, rfl, rfl, h0, r0⟩ := trodAll_cons hA
  obtain ⟨rfl, rfl, rfl⟩ := trodAll_nil r0
  obtain rfl : args = #[v0] := by cases args; simp_all
  have hV1 : DataW.TrodVars enc Tryd.prog W (fun _ => true) Rows.fnPhasesSpec.vars gs q := hV
  obtain ⟨g1, rfl⟩ : ∃ g1, gs = [g1] := by
    match gs, (vars_length hV1 : gs.length = 1) with
    | [g1], _ => exact ⟨g1, rfl⟩
  obtain ⟨a0, len0, cap0, rfl⟩ := okWide_slice Tryd.underlying22 (hval 0 22 v0 rfl rfl)
  have k0 := h0
  have lt0 : ∀ x ∈ p0, x.block < W.heap.size := by obtain ⟨m, hm⟩ := k0; exact DataW.trod_lt m _ _ _ hm
  obtain ⟨z0, w0⟩ : ∃ zs, IsRow .u8 W a0 len0 cap0 zs := by
    obtain ⟨fuel, hf⟩ := h0
    rcases open_ints Tryd.underlying22 Tryd.underlying5 (by kernel_rfl) hf with ⟨hcs, _⟩ | ⟨x, l, c, zs, hcs, _, hl, hm, hz, _, hcell, hwz⟩
    · simp [Value.cells] at hcs
      obtain ⟨rfl, rfl, rfl⟩ := hcs
      exact ⟨[], .inl ⟨rfl, rfl, rfl, rfl⟩⟩
    · simp [Value.cells] at hcs
      obtain ⟨rfl, rfl, rfl⟩ := hcs
      exact ⟨zs, .inr ⟨_, rfl, hl, hm, by simpa using hz, hcell, hwz⟩⟩
  clear hA0 hval0
  refine (walk a0 len0 cap0 z0 W w0 ⟨phs_of hL⟩).mono fun e W' ⟨he, hg⟩ => ?_
  subst he
  exact ⟨_, rfl, _, _, _, [], _, q, hW', trodAll_mk1 (shut_bool Tryd.underlying4 _), (trodAll_cons_mk (Below.trod laidOut (by kernel_rfl) (of_decide_eq_true (by kernel_rfl)) k0 hg lt0) trodAll_mk0), Below.trodVars laidOut hg (by kernel_rfl) hV1, hg.frame _, fun h => by cases h⟩

theorem over : Rows.fnPhasesRow.holds Tryd.pinned (OpenSpec.ofChange Rows.fnPhasesSpec) :=
  OpenClaim.holds_of_wide 3 Tryd.f3 rfl rfl rfl rfl rfl rfl rfl ⟨rfl, rfl, rfl, rfl, rfl⟩ rfl rfl rfl rfl rfl (by kernel_rfl) Tryd.func3 (by kernel_rfl)
    (of_decide_eq_true (by kernel_rfl)) (by unfold Func.isWrapper; first | (rw [if_pos (by decide +kernel)]; kernel_rfl) | (rw [if_neg (by decide +kernel)]; exact ⟨rfl, rfl⟩))
    (fun os started H enc _ => lifted os started H enc)

theorem plain (f : FuncId) (fn : Func) (hf : Tryd.pinned.checked.prog.funcNamed Rows.fnPhasesRow.func = some f) (hfn : Tryd.pinned.checked.prog.funcs[f]? = some fn) :
    false = Tryd.pinned.checked.prog.looks [] ∧ ∀ (j : Nat) t, fn.params[j]? = some t → Tryd.pinned.checked.prog.wantsStandIn t = false := by
  obtain rfl : f = 3 := Option.some.inj ((show Tryd.prog.funcNamed Rows.fnPhasesRow.func = some 3 by kernel_rfl).symm.trans hf) |>.symm
  obtain rfl : fn = Tryd.f3 := (Option.some.inj (Tryd.func3.symm.trans hfn)).symm
  refine ⟨by kernel_rfl, fun j t ht => ?_⟩
  rw [Tryd.params3] at ht
  have hm : t ∈ [22] := by first | simpa using Array.mem_of_getElem? ht | (have h := Array.mem_of_getElem? ht; simp at h ⊢; rcases h with h | h | h | h <;> simp [h])
  have hall : ([22].all fun u => !Tryd.prog.wantsStandIn u) = true := by kernel_rfl
  exact (show Tryd.prog.wantsStandIn t = false by simpa using List.all_eq_true.1 hall t hm)

end Go.Proofs.YtjpfkjehlaepbaaDoor.fnPhases

namespace Go.Proofs.YtjpfkjehlaepbaaDoor
theorem fnPhasesCard_holds : Rows.FnPhasesCardSaid :=
  Claim7.holds_tied_plain_at .later [] _ _ _ _ fnPhases.over (fun _ h => by cases h) (by kernel_rfl) (fun _ h => by cases h) fnPhases_row_tie rfl ⟨rfl, rfl⟩ (by kernel_rfl) rfl fnPhases.plain (by kernel_rfl)
#print axioms fnPhasesCard_holds
end Go.Proofs.YtjpfkjehlaepbaaDoor
