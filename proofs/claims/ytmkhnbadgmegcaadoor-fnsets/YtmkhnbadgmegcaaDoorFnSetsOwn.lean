/- Proved: for every slice of bytes, laws.FnSets returns true; condition: the package variables csNames, nineSigns, koiSigns and winSigns hold what the program's text lays in them (tied). -/
import Derived.Test.YtmkhnbadgmegcaaDoorCards
import Derived.Test.YtmkhnbadgmegcaaDoorTie
import Derived.WalkKit
import Derived.ProofKit
import Derived.OpenShut
import Derived.ShutString
import Derived.ChangeOld
import Derived.Below
import Derived.OpenVars
import Derived.Lay
import Derived.MakeChecks
import Derived.SevenTiedAt
import Derived.Stop.Joined
import Derived.Test.YtmkhnbadgmegcaaDoorSetsW
namespace Go.Proofs.YtmkhnbadgmegcaaDoor.fnSets
open Go.ChangeShapes Go.WideShapes Go.ChangeAt Go.RowKit
open Go.ChangeMaps (open_string shut_string)
set_option linter.unusedVariables false

theorem own : ownKnob Tryd.prog.godebug = none := by kernel_rfl
theorem laidOut : laidOutB Tryd.prog = true := by kernel_rfl

def IsRow (k : IntKind) (w : World) (a : Option Addr) (len cap : Nat) (zs : List Int) : Prop :=
  (a = none ∧ len = 0 ∧ cap = 0 ∧ zs = []) ∨
  ∃ x, a = some x ∧ len ≤ cap ∧ cap ≤ maxLen ∧ zs.length = cap ∧ (∀ i, i < zs.length → w.cell? (x.add i) = some (.int k (zs.getD i 0))) ∧ ∀ n ∈ zs, (Lit.int k n).wf = true

set_option maxHeartbeats 4000000 in
theorem walk (a0 : Option Addr) (len0 cap0 : Nat) (z0 : List Int) (w : World) (w0 : IsRow .u8 w a0 len0 cap0 z0) (T : Hd (NamesAt w ∧ TabsAt w)) :
    Calls Tryd.prog 3 #[.slice a0 len0 cap0] w fun e w' => e = .returned (.bool true) ∧ Below w.heap.size w w' := by
  obtain ⟨bs, hr⟩ := reads_of_row w0
  have K0 : Hd (Stays w a0 len0 bs w) := ⟨Stays.start T.out hr⟩
  clear hr w0 T
  by_cases hb : (1048576 : Int) < (len0 : Int)
  · have hbd : decide ((1048576 : Int) < (len0 : Int)) = true := decide_eq_true hb
    go_enter Tryd.func3, Tryd.ntmps3
    go_wp2_with (go_at_call 8; refine (big_any _ _ _ _).mono ?_; rintro e w' ⟨rfl, rfl⟩)
    go_ret
    exact ⟨rfl, Below.refl _ _⟩
  · have hbd : decide ((1048576 : Int) < (len0 : Int)) = false := decide_eq_false hb
    have hl : len0 ≤ 1073741824 := by omega
    go_enter Tryd.func3, Tryd.ntmps3
    go_wp2_with fail
    refine (big_any _ _ _ _).mono ?_
    rintro e w' ⟨rfl, hw'⟩
    replace hw' := hw'.symm
    subst hw'
    go_wp2_with fail
    refine (drawByteSign_any a0 len0 cap0 bs _ hl K0.out.reads).mono ?_
    rintro e w1 ⟨cs, b, rfl, hB1⟩
    have K1 : Hd (Stays w a0 len0 bs w1) := ⟨K0.out.next hB1⟩
    clear hB1 K0
    obtain ⟨n, hn⟩ : ∃ n, bsN cs b = n := ⟨_, rfl⟩
    have N1 : Hd (bsN cs b = n) := ⟨hn⟩
    obtain ⟨ok, hok⟩ : ∃ ok, bsOk cs b = ok := ⟨_, rfl⟩
    have O1 : Hd (bsOk cs b = ok) := ⟨hok⟩
    clear hn hok
    go_wp2_with fail
    refine (implByteSign_is N1 O1 _ K1.out.tabs).mono ?_
    rintro e w2 ⟨rfl, hw⟩
    replace hw := hw.symm
    subst hw
    go_wp2_with fail
    refine (specByteSign_is N1 O1 _).mono ?_
    rintro e w3 ⟨rfl, hB3⟩
    have K3 : Hd (Stays w a0 len0 bs w3) := ⟨K1.out.next hB3⟩
    clear hB3 K1
    go_wp2_with fail
    refine (drawSignByte_any a0 len0 cap0 bs _ hl K3.out.reads).mono ?_
    rintro e w4 ⟨d, m, rfl, hB4⟩
    have K4 : Hd (Stays w a0 len0 bs w4) := ⟨K3.out.next hB4⟩
    clear hB4 K3
    obtain ⟨y, hy⟩ : ∃ y, sbN d m = y := ⟨_, rfl⟩
    have N2 : Hd (sbN d m = y) := ⟨hy⟩
    obtain ⟨is, his⟩ : ∃ is, sbOk d m = is := ⟨_, rfl⟩
    have O2 : Hd (sbOk d m = is) := ⟨his⟩
    clear hy his
    go_wp2_with fail
    refine (implSignByte_is N2 O2 _ K4.out.tabs).mono ?_
    rintro e w5 ⟨rfl, hw⟩
    replace hw := hw.symm
    subst hw
    go_wp2_with fail
    refine (specSignByte_is N2 O2 _).mono ?_
    rintro e w6 ⟨rfl, hB6⟩
    have K6 : Hd (Stays w a0 len0 bs w6) := ⟨K4.out.next hB6⟩
    clear hB6 K4
    go_wp2_with fail
    refine (at_two a0 len0 cap0 bs _ hl K6.out.reads).mono ?_
    rintro e w7 ⟨rfl, hw⟩
    replace hw := hw.symm
    subst hw
    obtain ⟨k, hk⟩ : ∃ k, k = atV bs 2 % 128 := ⟨_, rfl⟩
    have hk1 : Hd (k < 128) := ⟨by rw [hk]; exact Nat.mod_lt _ (by omega)⟩
    have hK : (atV bs 2 : Int) % 128 = (k : Int) := by rw [hk]; simp
    have hK2 : ((atV bs 2 : Int)).tmod 128 = (k : Int) := by rw [Int.tmod_eq_emod_of_nonneg (by omega)]; exact hK
    clear hk
    go_wp2_with fail
    refine (at_three a0 len0 cap0 bs _ hl K6.out.reads).mono ?_
    rintro e w8 ⟨rfl, hw⟩
    replace hw := hw.symm
    subst hw
    obtain ⟨q, hq⟩ : ∃ q, q = atV bs 3 % 4 := ⟨_, rfl⟩
    have hq1 : Hd (q < 4) := ⟨by rw [hq]; exact Nat.mod_lt _ (by omega)⟩
    have hQ : (atV bs 3 : Int) % 4 = (q : Int) := by rw [hq]; simp
    have hQ2 : ((atV bs 3 : Int)).tmod 4 = (q : Int) := by rw [Int.tmod_eq_emod_of_nonneg (by omega)]; exact hQ
    clear hq
    have L1 : Hd (bsN (1 + (q : Int)) (k : Int) = (k : Int)) := ⟨(bs_low (by have := hq1.out; omega) (by omega) (by have := hk1.out; omega)).1⟩
    have L2 : Hd (bsOk (1 + (q : Int)) (k : Int) = true) := ⟨(bs_low (by have := hq1.out; omega) (by omega) (by have := hk1.out; omega)).2⟩
    go_wp2_with fail
    refine (implByteSign_is L1 L2 _ K6.out.tabs).mono ?_
    rintro e w9 ⟨rfl, hw⟩
    replace hw := hw.symm
    subst hw
    clear L1 L2 hK hK2 hQ hQ2 N2 O2
    have f1 : (ok != ok) = false := by simp
    have f2 : (n != n) = false := by simp
    have f3 : (is != is) = false := by simp
    have f4 : (y != y) = false := by simp
    have f5 : ((k : Int) != (k : Int)) = false := by simp
    cases ok with
    | false =>
      go_wp2_with fail
      refine (drawCsName_any a0 len0 cap0 bs _ hl K6.out.reads).mono ?_
      rintro e wc ⟨a, rfl, hBc⟩
      have Kc : Hd (Stays w a0 len0 bs wc) := ⟨K6.out.next hBc⟩
      clear hBc K6 hk1 hq1 N1 O1 f1 f2 f3 f4 f5
      go_wp2_with fail
      refine (drawCsOf_any a0 len0 cap0 bs _ hl Kc.out.reads).mono ?_
      rintro e wd ⟨s, rfl, hBd⟩
      have Kd : Hd (Stays w a0 len0 bs wd) := ⟨Kc.out.next hBd⟩
      clear hBd Kc
      obtain ⟨x, hx⟩ : ∃ x, csName a = x := ⟨_, rfl⟩
      have X : Hd (csName a = x) := ⟨hx⟩
      obtain ⟨r, hr⟩ : ∃ r, csOf s = r := ⟨_, rfl⟩
      have R : Hd (csOf s = r) := ⟨hr⟩
      clear hx hr
      have g1 : (x.toList == x.toList) = true := by simp
      have g2 : (r == r) = true := by simp
      go_wp2_with fail
      refine (implCsName_is X _ Kd.out.names).mono ?_
      rintro e we ⟨rfl, hw⟩
      replace hw := hw.symm
      subst hw
      go_wp2_with fail
      refine (specCsName_is X _).mono ?_
      rintro e wf ⟨rfl, hBf⟩
      have Kf : Hd (Stays w a0 len0 bs wf) := ⟨Kd.out.next hBf⟩
      clear hBf Kd
      go_wp2_with fail
      refine (implCsOf_is R _ Kf.out.names).mono ?_
      rintro e wg ⟨rfl, hw⟩
      replace hw := hw.symm
      subst hw
      go_wp2_with fail
      refine (specCsOf_is R _).mono ?_
      rintro e wh ⟨rfl, hBh⟩
      have Kh : Hd (Stays w a0 len0 bs wh) := ⟨Kf.out.next hBh⟩
      clear hBh Kf
      cases he : (x.toList == []) with
      | true =>
        have h1 : x.toList = [] := by simpa using he
        go_wp2_with fail
        refine (implCsName_is X _ Kh.out.names).mono ?_
        rintro e wi ⟨rfl, hw⟩
        replace hw := hw.symm
        subst hw
        go_wp2_with fail
        go_ret
        exact ⟨rfl, Kh.out.below⟩
      | false =>
        have h1 : Hd (csOf x = a) := ⟨by rw [← X.out]; exact csOf_name (by rw [X.out]; intro h; rw [h] at he; simp at he)⟩
        have g3 : (a == a) = true := by simp
        go_wp2_with fail
        refine (implCsName_is X _ Kh.out.names).mono ?_
        rintro e wi ⟨rfl, hw⟩
        replace hw := hw.symm
        subst hw
        go_wp2_with fail
        refine (implCsName_is X _ Kh.out.names).mono ?_
        rintro e wj ⟨rfl, hw⟩
        replace hw := hw.symm
        subst hw
        go_wp2_with fail
        refine (implCsOf_is h1 _ Kh.out.names).mono ?_
        rintro e wk ⟨rfl, hw⟩
        replace hw := hw.symm
        subst hw
        go_wp2_with fail
        go_ret
        exact ⟨rfl, Kh.out.below⟩
    | true =>
      obtain ⟨hs1, hs2⟩ := sb_back O1.out
      rw [N1.out] at hs1 hs2
      have S1 : Hd (sbN cs n = b) := ⟨hs1⟩
      have S2 : Hd (sbOk cs n = true) := ⟨hs2⟩
      clear hs1 hs2
      have f6 : (b != b) = false := by simp
      go_wp2_with fail
      refine (implSignByte_is S1 S2 _ K6.out.tabs).mono ?_
      rintro e wa ⟨rfl, hw⟩
      replace hw := hw.symm
      subst hw
      go_wp2_with fail
      refine (implByteSign_is N1 O1 _ K6.out.tabs).mono ?_
      rintro e wb ⟨rfl, hw⟩
      replace hw := hw.symm
      subst hw
      go_wp2_with fail
      clear S1 S2 f6
      refine (drawCsName_any a0 len0 cap0 bs _ hl K6.out.reads).mono ?_
      rintro e wc ⟨a, rfl, hBc⟩
      have Kc : Hd (Stays w a0 len0 bs wc) := ⟨K6.out.next hBc⟩
      clear hBc K6 hk1 hq1 N1 O1 f1 f2 f3 f4 f5
      go_wp2_with fail
      refine (drawCsOf_any a0 len0 cap0 bs _ hl Kc.out.reads).mono ?_
      rintro e wd ⟨s, rfl, hBd⟩
      have Kd : Hd (Stays w a0 len0 bs wd) := ⟨Kc.out.next hBd⟩
      clear hBd Kc
      obtain ⟨x, hx⟩ : ∃ x, csName a = x := ⟨_, rfl⟩
      have X : Hd (csName a = x) := ⟨hx⟩
      obtain ⟨r, hr⟩ : ∃ r, csOf s = r := ⟨_, rfl⟩
      have R : Hd (csOf s = r) := ⟨hr⟩
      clear hx hr
      have g1 : (x.toList == x.toList) = true := by simp
      have g2 : (r == r) = true := by simp
      go_wp2_with fail
      refine (implCsName_is X _ Kd.out.names).mono ?_
      rintro e we ⟨rfl, hw⟩
      replace hw := hw.symm
      subst hw
      go_wp2_with fail
      refine (specCsName_is X _).mono ?_
      rintro e wf ⟨rfl, hBf⟩
      have Kf : Hd (Stays w a0 len0 bs wf) := ⟨Kd.out.next hBf⟩
      clear hBf Kd
      go_wp2_with fail
      refine (implCsOf_is R _ Kf.out.names).mono ?_
      rintro e wg ⟨rfl, hw⟩
      replace hw := hw.symm
      subst hw
      go_wp2_with fail
      refine (specCsOf_is R _).mono ?_
      rintro e wh ⟨rfl, hBh⟩
      have Kh : Hd (Stays w a0 len0 bs wh) := ⟨Kf.out.next hBh⟩
      clear hBh Kf
      cases he : (x.toList == []) with
      | true =>
        have h1 : x.toList = [] := by simpa using he
        go_wp2_with fail
        refine (implCsName_is X _ Kh.out.names).mono ?_
        rintro e wi ⟨rfl, hw⟩
        replace hw := hw.symm
        subst hw
        go_wp2_with fail
        go_ret
        exact ⟨rfl, Kh.out.below⟩
      | false =>
        have h1 : Hd (csOf x = a) := ⟨by rw [← X.out]; exact csOf_name (by rw [X.out]; intro h; rw [h] at he; simp at he)⟩
        have g3 : (a == a) = true := by simp
        go_wp2_with fail
        refine (implCsName_is X _ Kh.out.names).mono ?_
        rintro e wi ⟨rfl, hw⟩
        replace hw := hw.symm
        subst hw
        go_wp2_with fail
        refine (implCsName_is X _ Kh.out.names).mono ?_
        rintro e wj ⟨rfl, hw⟩
        replace hw := hw.symm
        subst hw
        go_wp2_with fail
        refine (implCsOf_is h1 _ Kh.out.names).mono ?_
        rintro e wk ⟨rfl, hw⟩
        replace hw := hw.symm
        subst hw
        go_wp2_with fail
        go_ret
        exact ⟨rfl, Kh.out.below⟩

set_option maxRecDepth 100000 in
theorem lifted (os : Os) (started : os.Started) (H : Type) (enc : TypeId × Value → H) :
    ReturnsInHanded {} Tryd.checked os 3 .any (fun w args => (Rows.fnSetsSpec.pre enc Tryd.prog Tryd.f3 Rows.fnSetsRow.domain false w args ∧ laidMetH Tryd.prog Rows.fnSetsRow.laid w) ∧ sizedMet enc Tryd.prog Tryd.f3 (OpenSpec.ofChange Rows.fnSetsSpec) false w args)
      (Rows.fnSetsSpec.post enc Tryd.prog Tryd.f3 false true false false) := by
  refine returnsInHanded_of_change_and (C := Tryd.checked) (X := fun w _ => laidMetH Tryd.prog Rows.fnSetsRow.laid w) (fun _ _ _ hh h => h.of_heap hh) own started (by kernel_rfl) Tryd.func3
    (ChangeSpec.witness_shaped (enc := enc) (C := Tryd.checked) (os := os) (X := fun w _ => laidMetH Tryd.prog Rows.fnSetsRow.laid w) false (World.laidAll Tryd.prog os Rows.fnSetsRow.laid) #[.slice none 0 0] 8 (World.laidAll_os _ _ _)
      (World.shaped_of_ZipB (by kernel_rfl) (by kernel_rfl)) (by kernel_rfl) (by kernel_rfl) (by kernel_rfl)
      (by rw [MakeChecks.laidMetH_plain _ _ _ (by kernel_rfl)]; exact laidMet_laidAll _ (by kernel_rfl) (by kernel_rfl))) ?_
  intro W base args ds gs before hval0 hW _ _ hL _
  have hval : ∀ (j : Nat) t v, Tryd.f3.params[j]? = some t → args[j]? = some v → Value.okWide Tryd.prog W .any base t v := hval0
  have hW' := hW
  obtain ⟨p, q, hA0, hV, rfl, hfz, hnd⟩ := hW
  have hA : DataW.TrodAll enc Tryd.prog W 0 (fun _ => true) true Tryd.f3.params.toList args.toList ds p := hA0
  rw [Tryd.params3] at hA hval
  obtain ⟨v0, vs0, d0, ds0, p0, q0, hargs, rfl, rfl, h0, r0⟩ := trodAll_cons hA
  obtain ⟨rfl, rfl, rfl⟩ := trodAll_nil r0
  obtain rfl : args = #[v0] := by cases args; simp_all
  have hV1 : DataW.TrodVars enc Tryd.prog W (fun _ => true) Rows.fnSetsSpec.vars gs q := hV
  obtain ⟨g1, g2, g3, g4, rfl⟩ : ∃ g1 g2 g3 g4, gs = [g1, g2, g3, g4] := by
    match gs, (vars_length hV1 : gs.length = 4) with
    | [g1, g2, g3, g4], _ => exact ⟨g1, g2, g3, g4, rfl⟩
  obtain ⟨a0, len0, cap0, rfl⟩ := okWide_slice Tryd.underlying22 (hval 0 22 v0 rfl rfl)
  have k0 := h0
  have lt0 : ∀ x ∈ p0, x.block < W.heap.size := by obtain ⟨m, hm⟩ := k0; exact DataW.trod_lt m _ _ _ hm
  obtain ⟨z0, w0⟩ : ∃ zs, IsRow .u8 W a0 len0 cap0 zs := by
    obtain ⟨fuel, hf⟩ := h0
    rcases open_ints Tryd.underlying22 Tryd.underlying5 (by kernel_rfl) hf with ⟨hcs, _⟩ | ⟨x, l, c, zs, hcs, _, hl, hm, hz, _, hcell, hwz⟩
    · simp [Value.cells] at hcs
      obtain ⟨rfl, rfl, rfl⟩ := hcs
      exact ⟨[], .inl ⟨rfl, rfl, rfl, rfl⟩⟩
    · simp [Value.cells] at hcs
      obtain ⟨rfl, rfl, rfl⟩ := hcs
      exact ⟨zs, .inr ⟨_, rfl, hl, hm, by simpa using hz, hcell, hwz⟩⟩
  clear hA0 hval0
  refine (walk a0 len0 cap0 z0 W w0 ⟨both_of hL⟩).mono fun e W' ⟨he, hg⟩ => ?_
  subst he
  exact ⟨_, rfl, _, _, _, [], _, q, hW', trodAll_mk1 (shut_bool Tryd.underlying4 _), (trodAll_cons_mk (Below.trod laidOut (by kernel_rfl) (of_decide_eq_true (by kernel_rfl)) k0 hg lt0) trodAll_mk0), Below.trodVars laidOut hg (by kernel_rfl) hV1, hg.frame _, fun h => by cases h⟩

theorem over : Rows.fnSetsRow.holds Tryd.pinned (OpenSpec.ofChange Rows.fnSetsSpec) :=
  OpenClaim.holds_of_wide 3 Tryd.f3 rfl rfl rfl rfl rfl rfl rfl ⟨rfl, rfl, rfl, rfl, rfl⟩ rfl rfl rfl rfl rfl (by kernel_rfl) Tryd.func3 (by kernel_rfl)
    (of_decide_eq_true (by kernel_rfl)) (by unfold Func.isWrapper; first | (rw [if_pos (by decide +kernel)]; kernel_rfl) | (rw [if_neg (by decide +kernel)]; exact ⟨rfl, rfl⟩))
    (fun os started H enc _ => lifted os started H enc)

theorem plain (f : FuncId) (fn : Func) (hf : Tryd.pinned.checked.prog.funcNamed Rows.fnSetsRow.func = some f) (hfn : Tryd.pinned.checked.prog.funcs[f]? = some fn) :
    false = Tryd.pinned.checked.prog.looks [] ∧ ∀ (j : Nat) t, fn.params[j]? = some t → Tryd.pinned.checked.prog.wantsStandIn t = false := by
  obtain rfl : f = 3 := Option.some.inj ((show Tryd.prog.funcNamed Rows.fnSetsRow.func = some 3 by kernel_rfl).symm.trans hf) |>.symm
  obtain rfl : fn = Tryd.f3 := (Option.some.inj (Tryd.func3.symm.trans hfn)).symm
  refine ⟨by kernel_rfl, fun j t ht => ?_⟩
  rw [Tryd.params3] at ht
  have hm : t ∈ [22] := by simpa using Array.mem_of_getElem? ht
  have hall : ([22].all fun u => !Tryd.prog.wantsStandIn u) = true := by kernel_rfl
  exact (show Tryd.prog.wantsStandIn t = false by simpa using List.all_eq_true.1 hall t hm)

end Go.Proofs.YtmkhnbadgmegcaaDoor.fnSets

namespace Go.Proofs.YtmkhnbadgmegcaaDoor
theorem fnSetsCard_holds : Rows.FnSetsCardSaid :=
  Claim7.holds_tied_plain_at .later [] _ _ _ _ fnSets.over (fun _ h => by cases h) (by kernel_rfl) (fun _ h => by cases h) fnSets_row_tie rfl ⟨rfl, rfl⟩ (by kernel_rfl) rfl fnSets.plain (by kernel_rfl)
#print axioms fnSetsCard_holds
end Go.Proofs.YtmkhnbadgmegcaaDoor
