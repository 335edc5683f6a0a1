/- For every set number and every text, impl.Encode answers as spec.Encode, and its answer owns its memory (beyond 1048576 bytes the law itself returns true). -/
import Derived.Test.YtcddjfdmodpnjaaDoorCards
import Derived.Test.YtcddjfdmodpnjaaDoorTie
import Derived.WalkKit
import Derived.ProofKit
import Derived.OpenShut
import Derived.ShutString
import Derived.ChangeOld
import Derived.Below
import Derived.OpenVars
import Derived.Lay
import Derived.MakeChecks
import Derived.SevenTiedAt
import Derived.Stop.Joined
import Derived.Test.YtcddjfdmodpnjaaDoorCodeT
namespace Go.Proofs.YtcddjfdmodpnjaaDoor.fnExactEncode
open Go.ChangeShapes Go.WideShapes Go.ChangeAt Go.RowKit
open Go.ChangeMaps (open_string shut_string)
set_option linter.unusedVariables false

theorem own : ownKnob Tryd.prog.godebug = none := by kernel_rfl
theorem laidOut : laidOutB Tryd.prog = true := by kernel_rfl

theorem walk (a0 : Int) (w0 : (Lit.int .i64 a0).wf = true) (a1 : ByteArray) (w1 : a1.size ≤ maxLen) (w : World) (T : Hd (AllAt w)) :
    Calls Tryd.prog 7 #[.int .i64 a0, .string a1] w fun e w' => e = .returned (.bool true) ∧ Below w.heap.size w w' := by
  clear w0
  by_cases hb : 1048576 < a1.size
  · clear T
    go_enter Tryd.func7, Tryd.ntmps7
    go_wp2_with fail
    go_ret
    exact ⟨rfl, Below.refl _ _⟩
  · clear w1
    have hlen : (encS a0 a1.data.toList).length ≤ 4194304 := encS_len a0 a1 (by omega)
    obtain ⟨x, hx⟩ : ∃ x, encS a0 a1.data.toList = x := ⟨_, rfl⟩
    have HX : Hd (encS a0 a1.data.toList = x) := ⟨hx⟩
    obtain ⟨ok, hok⟩ : ∃ ok, encOk a0 a1.data.toList = ok := ⟨_, rfl⟩
    have HK : Hd (encOk a0 a1.data.toList = ok) := ⟨hok⟩
    rw [hx] at hlen
    obtain ⟨n, hn⟩ : ∃ n, x.length = n := ⟨_, rfl⟩
    have HN : Hd (x.length = n) := ⟨hn⟩
    rw [hn] at hlen
    have fk : (ok != ok) = false := by simp
    clear hx hok hn
    go_enter Tryd.func7, Tryd.ntmps7
    go_wp2_with fail
    refine (specEncode_any a0 a1 _ (by omega)).mono ?_
    rewrite [HX.out, HK.out]
    rintro e w1 ⟨gw, cw, rfl, hgw, hOw, hB1⟩
    rewrite [HN.out]
    have W1 : Hd (Row w1 gw x) := ⟨hOw.row⟩
    have B1 : Hd (Below w.heap.size w w1) := ⟨hB1⟩
    have L1 : Hd (gw < w1.heap.size) := ⟨hOw.lt⟩
    clear hgw hOw hB1
    go_wp2_with fail
    refine (implEncode_any a0 a1 _ (by omega) ⟨T.out.below B1.out⟩).mono ?_
    rewrite [HX.out, HK.out]
    rintro e w2 ⟨gg, cg, rfl, hgg, hOg, hB2⟩
    rewrite [HN.out]
    have W2 : Hd (Row w2 gw x) := ⟨W1.out.below hB2⟩
    have G2 : Hd (Row w2 gg x) := ⟨hOg.row⟩
    have B2 : Hd (Below w.heap.size w w2) := ⟨Below.next B1.out hB2⟩
    have NE : Hd (gw ≠ gg ∧ w.heap.size ≤ gg) := ⟨by have := L1.out; have := B1.out.size; omega⟩
    clear hgg hOg hB2 W1 B1 L1
    go_wp2_with fail
    refine (eqByteS_true _ _ _ _ n x _ (by omega) (G2.out.reads HN.out) (W2.out.reads HN.out)).mono ?_
    rintro e w3 ⟨rfl, hB3⟩
    have W3 : Hd (Row w3 gw x) := ⟨W2.out.below hB3⟩
    have G3 : Hd (Row w3 gg x) := ⟨G2.out.below hB3⟩
    have B3 : Hd (Below w.heap.size w w3) := ⟨Below.next B2.out hB3⟩
    clear hB3 W2 G2 B2
    go_wp2_with fail
    refine (markByteS_any _ n _ 1 x _ HN.out G3.out (by omega) (by omega)).mono ?_
    rintro e w4 ⟨rfl, hR4, hG4⟩
    have G4 : Hd (Row w4 gg (marks 1 n)) := ⟨hR4⟩
    have W4 : Hd (Row w4 gw x) := ⟨W3.out.grown hG4 NE.out.1⟩
    have B4 : Hd (Below w.heap.size w w4) := ⟨B3.out.grown hG4 B3.out.size (fun q h => by simp at h; have := NE.out.2; omega)⟩
    clear hR4 hG4 W3 G3 B3
    go_wp2_with fail
    refine (heldByteS_any _ n _ 1 _ G4.out (by omega) (by omega)).mono ?_
    rintro e w5 ⟨rfl, hw5⟩
    subst hw5
    have hq : ¬ (((1 + n : Nat) : Int) < 0) := by omega
    have hqm : (((1 + n : Nat) : Int) != ((1 + n : Nat) : Int)) = false := by simp
    go_wp2_with fail
    refine (implEncode_any a0 a1 _ (by omega) ⟨T.out.below B4.out⟩).mono ?_
    rewrite [HX.out, HK.out]
    rintro e w6 ⟨gh, ch, rfl, hgh, hOh, hB6⟩
    rewrite [HN.out]
    have W6 : Hd (Row w6 gw x) := ⟨W4.out.below hB6⟩
    have G6 : Hd (Row w6 gg (marks 1 n)) := ⟨G4.out.below hB6⟩
    have H6 : Hd (Row w6 gh x) := ⟨hOh.row⟩
    have B6 : Hd (Below w.heap.size w w6) := ⟨Below.next B4.out hB6⟩
    clear hgh hOh hB6 W4 G4 B4
    go_wp2_with fail
    refine (eqByteS_true _ _ _ _ n x _ (by omega) (H6.out.reads HN.out) (W6.out.reads HN.out)).mono ?_
    rintro e w7 ⟨rfl, hB7⟩
    have G7 : Hd (Row w7 gg (marks 1 n)) := ⟨G6.out.below hB7⟩
    have B7 : Hd (Below w.heap.size w w7) := ⟨Below.next B6.out hB7⟩
    clear hB7 W6 G6 H6 B6
    go_wp2_with fail
    refine (heldByteS_any _ n _ 1 _ G7.out (by omega) (by omega)).mono ?_
    rintro e w8 ⟨rfl, hw8⟩
    subst hw8
    go_wp2_with fail
    go_ret
    exact ⟨rfl, B7.out⟩

set_option maxRecDepth 100000 in
theorem lifted (os : Os) (started : os.Started) (H : Type) (enc : TypeId × Value → H) :
    ReturnsInHanded {} Tryd.checked os 7 .any (fun w args => (Rows.fnExactEncodeSpec.pre enc Tryd.prog Tryd.f7 Rows.fnExactEncodeRow.domain false w args ∧ laidMetH Tryd.prog Rows.fnExactEncodeRow.laid w) ∧ sizedMet enc Tryd.prog Tryd.f7 (OpenSpec.ofChange Rows.fnExactEncodeSpec) false w args)
      (Rows.fnExactEncodeSpec.post enc Tryd.prog Tryd.f7 false true false false) := by
  refine returnsInHanded_of_change_and (C := Tryd.checked) (X := fun w _ => laidMetH Tryd.prog Rows.fnExactEncodeRow.laid w) (fun _ _ _ hh h => h.of_heap hh) own started (by kernel_rfl) Tryd.func7
    (ChangeSpec.witness_shaped (enc := enc) (C := Tryd.checked) (os := os) (X := fun w _ => laidMetH Tryd.prog Rows.fnExactEncodeRow.laid w) false (World.laidAll Tryd.prog os Rows.fnExactEncodeRow.laid) #[.int .i64 0, .string ByteArray.empty] 8 (World.laidAll_os _ _ _)
      (World.shaped_of_ZipB (by kernel_rfl) (by kernel_rfl)) (by kernel_rfl) (by kernel_rfl) (by kernel_rfl)
      (by rw [MakeChecks.laidMetH_plain _ _ _ (by kernel_rfl)]; exact laidMet_laidAll _ (by kernel_rfl) (by kernel_rfl))) ?_
  intro W base args ds gs before hval0 hW _ _ hL _
  have hval : ∀ (j : Nat) t v, Tryd.f7.params[j]? = some t → args[j]? = some v → Value.okWide Tryd.prog W .any base t v := hval0
  have hW' := hW
  obtain ⟨p, q, hA0, hV, rfl, hfz, hnd⟩ := hW
  have hA : DataW.TrodAll enc Tryd.prog W 0 (fun _ => true) true Tryd.f7.params.toList args.toList ds p := hA0
  rw [Tryd.params7] at hA hval
  obtain ⟨v0, vs0, d0, ds0, p0, q0, hargs, rfl, rfl, h0, r0⟩ := trodAll_cons hA
  obtain ⟨v1, vs1, d1, ds1, p1, q1, rfl, rfl, rfl, h1, r1⟩ := trodAll_cons r0
  obtain ⟨rfl, rfl, rfl⟩ := trodAll_nil r1
  obtain rfl : args = #[v0, v1] := by cases args; simp_all
  have hV1 : DataW.TrodVars enc Tryd.prog W (fun _ => true) Rows.fnExactEncodeSpec.vars gs q := hV
  obtain ⟨g1, g2, g3, g4, rfl⟩ : ∃ g1 g2 g3 g4, gs = [g1, g2, g3, g4] := by
    match gs, (vars_length hV1 : gs.length = 4) with
    | [g1, g2, g3, g4], _ => exact ⟨g1, g2, g3, g4, rfl⟩
  obtain ⟨a0, rfl, rfl, rfl, w0⟩ := open_int Tryd.underlying3 (hval 0 3 v0 rfl rfl) h0
  obtain ⟨a1, rfl, rfl, rfl, w1⟩ := open_string Tryd.underlying9 (hval 1 9 v1 rfl rfl) h1
  clear hA0 hval0
  refine (walk a0 w0 a1 w1 W ⟨all_of hL⟩).mono fun e W' ⟨he, hg⟩ => ?_
  subst he
  exact ⟨_, rfl, _, _, _, [], _, q, hW', trodAll_mk1 (shut_bool Tryd.underlying4 _), (trodAll_cons_mk (shut_int Tryd.underlying3 w0) (trodAll_cons_mk (shut_string Tryd.underlying9 w1) trodAll_mk0)), Below.trodVars laidOut hg (by kernel_rfl) hV1, hg.frame _, fun h => by cases h⟩

theorem over : Rows.fnExactEncodeRow.holds Tryd.pinned (OpenSpec.ofChange Rows.fnExactEncodeSpec) :=
  OpenClaim.holds_of_wide 7 Tryd.f7 rfl rfl rfl rfl rfl rfl rfl ⟨rfl, rfl, rfl, rfl, rfl⟩ rfl rfl rfl rfl rfl (by kernel_rfl) Tryd.func7 (by kernel_rfl)
    (of_decide_eq_true (by kernel_rfl)) (by unfold Func.isWrapper; first | (rw [if_pos (by decide +kernel)]; kernel_rfl) | (rw [if_neg (by decide +kernel)]; exact ⟨rfl, rfl⟩))
    (fun os started H enc _ => lifted os started H enc)

theorem plain (f : FuncId) (fn : Func) (hf : Tryd.pinned.checked.prog.funcNamed Rows.fnExactEncodeRow.func = some f) (hfn : Tryd.pinned.checked.prog.funcs[f]? = some fn) :
    true = Tryd.pinned.checked.prog.looks [] ∧ ∀ (j : Nat) t, fn.params[j]? = some t → Tryd.pinned.checked.prog.wantsStandIn t = false := by
  obtain rfl : f = 7 := Option.some.inj ((show Tryd.prog.funcNamed Rows.fnExactEncodeRow.func = some 7 by kernel_rfl).symm.trans hf) |>.symm
  obtain rfl : fn = Tryd.f7 := (Option.some.inj (Tryd.func7.symm.trans hfn)).symm
  refine ⟨by kernel_rfl, fun j t ht => ?_⟩
  rw [Tryd.params7] at ht
  have hm : t ∈ [3, 9] := by simpa using Array.mem_of_getElem? ht
  have hall : ([3, 9].all fun u => !Tryd.prog.wantsStandIn u) = true := by kernel_rfl
  exact (show Tryd.prog.wantsStandIn t = false by simpa using List.all_eq_true.1 hall t hm)

end Go.Proofs.YtcddjfdmodpnjaaDoor.fnExactEncode

namespace Go.Proofs.YtcddjfdmodpnjaaDoor
theorem fnExactEncodeCard_holds : Rows.FnExactEncodeCardSaid :=
  Claim7.holds_tied_plain_at .later [] _ _ _ _ fnExactEncode.over (fun _ h => by cases h) (by kernel_rfl) (fun _ h => by cases h) fnExactEncode_row_tie rfl ⟨rfl, rfl⟩ (by kernel_rfl) rfl fnExactEncode.plain (by kernel_rfl)
#print axioms fnExactEncodeCard_holds
end Go.Proofs.YtcddjfdmodpnjaaDoor
