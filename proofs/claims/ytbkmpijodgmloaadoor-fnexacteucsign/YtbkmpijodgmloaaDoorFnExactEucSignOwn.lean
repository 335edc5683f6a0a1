/- At every bytes and place EucSign answers in the program as in the specification: the same sign, place and flag; the bytes are not written. -/
import Derived.Test.YtbkmpijodgmloaaDoorCards
import Derived.Test.YtbkmpijodgmloaaDoorTie
import Derived.WalkKit
import Derived.ProofKit
import Derived.OpenShut
import Derived.ShutString
import Derived.ChangeOld
import Derived.Below
import Derived.OpenVars
import Derived.Lay
import Derived.MakeChecks
import Derived.SevenTiedAt
import Derived.Stop.Joined
import Derived.Test.YtbkmpijodgmloaaDoorLaidP
import Derived.Test.YtbkmpijodgmloaaDoorEucB
namespace Go.Proofs.YtbkmpijodgmloaaDoor.fnExactEucSign
open Go.ChangeShapes Go.WideShapes Go.ChangeAt Go.RowKit
open Go.ChangeMaps (open_string shut_string)
set_option linter.unusedVariables false

theorem own : ownKnob Tryd.prog.godebug = none := by kernel_rfl
theorem laidOut : laidOutB Tryd.prog = true := by kernel_rfl

def IsRow (k : IntKind) (w : World) (a : Option Addr) (len cap : Nat) (zs : List Int) : Prop :=
  (a = none ∧ len = 0 ∧ cap = 0 ∧ zs = []) ∨
  ∃ x, a = some x ∧ len ≤ cap ∧ cap ≤ maxLen ∧ zs.length = cap ∧ (∀ i, i < zs.length → w.cell? (x.add i) = some (.int k (zs.getD i 0))) ∧ ∀ n ∈ zs, (Lit.int k n).wf = true

theorem walk (a0 : Option Addr) (len0 cap0 : Nat) (z0 : List Int) (a1 : Int) (w1 : (Lit.int .i64 a1).wf = true) (w : World) (w0 : IsRow .u8 w a0 len0 cap0 z0) (T : Hd (PairsAt w)) :
    Calls Tryd.prog 6 #[.slice a0 len0 cap0, .int .i64 a1] w fun e w' => e = .returned (.bool true) ∧ Below w.heap.size w w' := by
  obtain ⟨bs, hr⟩ := reads_of_row w0
  by_cases hb : 1048576 < len0
  · clear hr w0 T
    go_enter Tryd.func6, Tryd.ntmps6
    go_wp2_with fail
    go_ret
    exact ⟨rfl, Below.refl _ _⟩
  · have Hn : Hid (bs.length = len0) := hr.1
    obtain ⟨⟨r1, r2, r3⟩, hE⟩ : ∃ r, eucAt bs a1 = r := ⟨_, rfl⟩
    have HE : Hd (eucAt bs a1 = (r1, r2, r3)) := ⟨hE⟩
    clear w0 hE
    go_enter Tryd.func6, Tryd.ntmps6
    go_wp2_with fail
    refine (toByteS_any a0 len0 cap0 bs _ hr (by omega)).mono ?_
    rintro e w1 ⟨rfl, hR1, hB1⟩
    go_wp2_with fail
    refine (specEucSign_any _ 0 len0 len0 bs a1 _ Hn.out (fun j hj => by rw [Nat.zero_add]; exact hR1.cell j (by rw [Hn.out]; exact hj)) (by omega)).mono ?_
    rintro e w2 ⟨rfl, hB12⟩
    rewrite [HE.out]
    have hB2 : Below w.heap.size w w2 := Below.next hB1 hB12
    have hr2 : Reads w2 a0 len0 bs := hr.below rfl hB2
    clear hR1 hB1 hr hB12
    go_wp2_with fail
    refine (toByteS_any a0 len0 cap0 bs _ hr2 (by omega)).mono ?_
    rintro e w3 ⟨rfl, hR3, hB3⟩
    have hB3' : Below w.heap.size w w3 := Below.next hB2 hB3
    have hr3 : Reads w3 a0 len0 bs := hr2.below rfl hB3
    clear hB2 hr2
    go_wp2_with fail
    refine (implEucSign_any _ 0 len0 len0 bs a1 _ Hn.out (fun j hj => by rw [Nat.zero_add]; exact hR3.cell j (by rw [Hn.out]; exact hj)) (by omega) ⟨T.out.below hB3'⟩).mono ?_
    rintro e w4 ⟨rfl, hB4⟩
    rewrite [HE.out]
    have hR4 := hR3.below hB4
    have hr4 : Reads w4 a0 len0 bs := hr3.below rfl hB4
    have hB4' : Below w.heap.size w w4 := Below.next hB3' hB4
    clear hR3 hB3 hB3' hr3 hB4
    have e1 : (r1 != r1) = false := by simp
    have e2 : (r2 != r2) = false := by simp
    have e3 : (r3 != r3) = false := by simp
    go_wp2_with fail
    refine (toByteS_any a0 len0 cap0 bs _ hr4 (by omega)).mono ?_
    rintro e w5 ⟨rfl, hR5, hB5⟩
    have hR4' := hR4.below hB5
    have hB5' : Below w.heap.size w w5 := Below.next hB4' hB5
    clear hR4 hr4 hB4' hB5
    go_wp2_with fail
    refine (eqByteS_true _ _ _ _ len0 bs _ (by omega) (hR4'.reads Hn.out) (hR5.reads Hn.out)).mono ?_
    rintro e w6 ⟨rfl, hB6⟩
    have hB6' : Below w.heap.size w w6 := Below.next hB5' hB6
    go_wp2_with fail
    go_ret
    exact ⟨rfl, hB6'⟩

set_option maxRecDepth 100000 in
theorem lifted (os : Os) (started : os.Started) (H : Type) (enc : TypeId × Value → H) :
    ReturnsInHanded {} Tryd.checked os 6 .any (fun w args => (Rows.fnExactEucSignSpec.pre enc Tryd.prog Tryd.f6 Rows.fnExactEucSignRow.domain false w args ∧ laidMetH Tryd.prog Rows.fnExactEucSignRow.laid w) ∧ sizedMet enc Tryd.prog Tryd.f6 (OpenSpec.ofChange Rows.fnExactEucSignSpec) false w args)
      (Rows.fnExactEucSignSpec.post enc Tryd.prog Tryd.f6 false true false false) := by
  refine returnsInHanded_of_change_and (C := Tryd.checked) (X := fun w _ => laidMetH Tryd.prog Rows.fnExactEucSignRow.laid w) (fun _ _ _ hh h => h.of_heap hh) own started (by kernel_rfl) Tryd.func6
    (ChangeSpec.witness_shaped (enc := enc) (C := Tryd.checked) (os := os) (X := fun w _ => laidMetH Tryd.prog Rows.fnExactEucSignRow.laid w) false (World.laidAll Tryd.prog os Rows.fnExactEucSignRow.laid) #[.slice none 0 0, .int .i64 0] 8 (World.laidAll_os _ _ _)
      (World.shaped_of_ZipB (by kernel_rfl) (by kernel_rfl)) (by kernel_rfl) (by kernel_rfl) (by kernel_rfl)
      (by rw [MakeChecks.laidMetH_plain _ _ _ (by kernel_rfl)]; exact laidMet_laidAll _ (by kernel_rfl) (by kernel_rfl))) ?_
  intro W base args ds gs before hval0 hW _ _ hL _
  have hval : ∀ (j : Nat) t v, Tryd.f6.params[j]? = some t → args[j]? = some v → Value.okWide Tryd.prog W .any base t v := hval0
  have hW' := hW
  obtain ⟨p, q, hA0, hV, rfl, hfz, hnd⟩ := hW
  have hA : DataW.TrodAll enc Tryd.prog W 0 (fun _ => true) true Tryd.f6.params.toList args.toList ds p := hA0
  rw [Tryd.params6] at hA hval
  obtain ⟨v0, vs0, d0, ds0, p0, q0, hargs, rfl, rfl, h0, r0⟩ := trodAll_cons hA
  obtain ⟨v1, vs1, d1, ds1, p1, q1, rfl, rfl, rfl, h1, r1⟩ := trodAll_cons r0
  obtain ⟨rfl, rfl, rfl⟩ := trodAll_nil r1
  obtain rfl : args = #[v0, v1] := by cases args; simp_all
  have hV1 : DataW.TrodVars enc Tryd.prog W (fun _ => true) Rows.fnExactEucSignSpec.vars gs q := hV
  obtain ⟨g1, rfl⟩ : ∃ g1, gs = [g1] := by
    match gs, (vars_length hV1 : gs.length = 1) with
    | [g1], _ => exact ⟨g1, rfl⟩
  obtain ⟨a0, len0, cap0, rfl⟩ := okWide_slice Tryd.underlying22 (hval 0 22 v0 rfl rfl)
  have k0 := h0
  have lt0 : ∀ x ∈ p0, x.block < W.heap.size := by obtain ⟨m, hm⟩ := k0; exact DataW.trod_lt m _ _ _ hm
  obtain ⟨z0, w0⟩ : ∃ zs, IsRow .u8 W a0 len0 cap0 zs := by
    obtain ⟨fuel, hf⟩ := h0
    rcases open_ints Tryd.underlying22 Tryd.underlying5 (by kernel_rfl) hf with ⟨hcs, _⟩ | ⟨x, l, c, zs, hcs, _, hl, hm, hz, _, hcell, hwz⟩
    · simp [Value.cells] at hcs
      obtain ⟨rfl, rfl, rfl⟩ := hcs
      exact ⟨[], .inl ⟨rfl, rfl, rfl, rfl⟩⟩
    · simp [Value.cells] at hcs
      obtain ⟨rfl, rfl, rfl⟩ := hcs
      exact ⟨zs, .inr ⟨_, rfl, hl, hm, by simpa using hz, hcell, hwz⟩⟩
  obtain ⟨a1, rfl, rfl, rfl, w1⟩ := open_int Tryd.underlying3 (hval 1 3 v1 rfl rfl) h1
  clear hA0 hval0
  refine (walk a0 len0 cap0 z0 a1 w1 W w0 ⟨pairs_of hL⟩).mono fun e W' ⟨he, hg⟩ => ?_
  subst he
  exact ⟨_, rfl, _, _, _, [], _, q, hW', trodAll_mk1 (shut_bool Tryd.underlying4 _), (trodAll_cons_mk (Below.trod laidOut (by kernel_rfl) (of_decide_eq_true (by kernel_rfl)) k0 hg lt0) (trodAll_cons_mk (shut_int Tryd.underlying3 w1) trodAll_mk0)), Below.trodVars laidOut hg (by kernel_rfl) hV1, hg.frame _, fun h => by cases h⟩

theorem over : Rows.fnExactEucSignRow.holds Tryd.pinned (OpenSpec.ofChange Rows.fnExactEucSignSpec) :=
  OpenClaim.holds_of_wide 6 Tryd.f6 rfl rfl rfl rfl rfl rfl rfl ⟨rfl, rfl, rfl, rfl, rfl⟩ rfl rfl rfl rfl rfl (by kernel_rfl) Tryd.func6 (by kernel_rfl)
    (of_decide_eq_true (by kernel_rfl)) (by unfold Func.isWrapper; first | (rw [if_pos (by decide +kernel)]; kernel_rfl) | (rw [if_neg (by decide +kernel)]; exact ⟨rfl, rfl⟩))
    (fun os started H enc _ => lifted os started H enc)

theorem plain (f : FuncId) (fn : Func) (hf : Tryd.pinned.checked.prog.funcNamed Rows.fnExactEucSignRow.func = some f) (hfn : Tryd.pinned.checked.prog.funcs[f]? = some fn) :
    false = Tryd.pinned.checked.prog.looks [] ∧ ∀ (j : Nat) t, fn.params[j]? = some t → Tryd.pinned.checked.prog.wantsStandIn t = false := by
  obtain rfl : f = 6 := Option.some.inj ((show Tryd.prog.funcNamed Rows.fnExactEucSignRow.func = some 6 by kernel_rfl).symm.trans hf) |>.symm
  obtain rfl : fn = Tryd.f6 := (Option.some.inj (Tryd.func6.symm.trans hfn)).symm
  refine ⟨by kernel_rfl, fun j t ht => ?_⟩
  rw [Tryd.params6] at ht
  have hm : t ∈ [22, 3] := by simpa using Array.mem_of_getElem? ht
  have hall : ([22, 3].all fun u => !Tryd.prog.wantsStandIn u) = true := by kernel_rfl
  exact (show Tryd.prog.wantsStandIn t = false by simpa using List.all_eq_true.1 hall t hm)

end Go.Proofs.YtbkmpijodgmloaaDoor.fnExactEucSign

namespace Go.Proofs.YtbkmpijodgmloaaDoor
theorem fnExactEucSignCard_holds : Rows.FnExactEucSignCardSaid :=
  Claim7.holds_tied_plain_at .later [] _ _ _ _ fnExactEucSign.over (fun _ h => by cases h) (by kernel_rfl) (fun _ h => by cases h) fnExactEucSign_row_tie rfl ⟨rfl, rfl⟩ (by kernel_rfl) rfl fnExactEucSign.plain (by kernel_rfl)
#print axioms fnExactEucSignCard_holds
end Go.Proofs.YtbkmpijodgmloaaDoor
