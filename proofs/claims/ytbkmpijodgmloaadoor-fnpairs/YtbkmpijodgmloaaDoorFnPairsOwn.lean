/- Whatever the code: two drawn bytes that stand for a sign come back of it, what is drawn is read and written in the program as in the specification, and what was read is written as the bytes that stood there. -/
import Derived.Test.YtbkmpijodgmloaaDoorCards
import Derived.Test.YtbkmpijodgmloaaDoorTie
import Derived.WalkKit
import Derived.ProofKit
import Derived.OpenShut
import Derived.ShutString
import Derived.ChangeOld
import Derived.Below
import Derived.OpenVars
import Derived.Lay
import Derived.MakeChecks
import Derived.SevenTiedAt
import Derived.Stop.Joined
import Derived.Test.YtbkmpijodgmloaaDoorLaidP
import Derived.Test.YtbkmpijodgmloaaDoorPairsLaw
namespace Go.Proofs.YtbkmpijodgmloaaDoor.fnPairs
open Go.ChangeShapes Go.WideShapes Go.ChangeAt Go.RowKit
open Go.ChangeMaps (open_string shut_string)
set_option linter.unusedVariables false

theorem own : ownKnob Tryd.prog.godebug = none := by kernel_rfl
theorem laidOut : laidOutB Tryd.prog = true := by kernel_rfl

def IsRow (k : IntKind) (w : World) (a : Option Addr) (len cap : Nat) (zs : List Int) : Prop :=
  (a = none ∧ len = 0 ∧ cap = 0 ∧ zs = []) ∨
  ∃ x, a = some x ∧ len ≤ cap ∧ cap ≤ maxLen ∧ zs.length = cap ∧ (∀ i, i < zs.length → w.cell? (x.add i) = some (.int k (zs.getD i 0))) ∧ ∀ n ∈ zs, (Lit.int k n).wf = true

set_option maxRecDepth 20000 in
set_option maxHeartbeats 8000000 in
theorem walk (a0 : Option Addr) (len0 cap0 : Nat) (z0 : List Int) (w : World) (w0 : IsRow .u8 w a0 len0 cap0 z0) (T : Hd (PairsAt w)) :
    Calls Tryd.prog 3 #[.slice a0 len0 cap0] w fun e w' => e = .returned (.bool true) ∧ Below w.heap.size w w' := by
  obtain ⟨bs, hr⟩ := reads_of_row w0
  have K0 : Hd (PStays w a0 len0 bs w) := ⟨PStays.start T.out hr⟩
  clear hr w0 T
  by_cases hb : (1048576 : Int) < (len0 : Int)
  · have hbd : decide ((1048576 : Int) < (len0 : Int)) = true := decide_eq_true hb
    go_enter Tryd.func3, Tryd.ntmps3
    go_wp2_with (go_at_call 8; refine (big_any _ _ _ _).mono ?_; rintro e w' ⟨rfl, rfl⟩)
    go_ret
    exact ⟨rfl, Below.refl _ _⟩
  · have hbd : decide ((1048576 : Int) < (len0 : Int)) = false := decide_eq_false hb
    have hl : len0 ≤ 1073741824 := by omega
    go_enter Tryd.func3, Tryd.ntmps3
    go_wp2_with fail
    refine (big_any _ _ _ _).mono ?_
    rintro e w' ⟨rfl, hw'⟩
    replace hw' := hw'.symm
    subst hw'
    go_wp2_with fail
    refine (drawPairSign_any a0 len0 cap0 bs _ hl K0.out.reads).mono ?_
    rintro e w1 ⟨hi, lo, rfl, _, _, hB1⟩
    have K1 : Hd (PStays w a0 len0 bs w1) := ⟨K0.out.next hB1⟩
    clear hB1 K0
    obtain ⟨n, hn⟩ : ∃ n, psN hi lo = n := ⟨_, rfl⟩
    have N1 : Hd (psN hi lo = n) := ⟨hn⟩
    obtain ⟨ok, hok⟩ : ∃ ok, psOk hi lo = ok := ⟨_, rfl⟩
    have O1 : Hd (psOk hi lo = ok) := ⟨hok⟩
    clear hn hok
    go_wp2_with fail
    refine (implPairSign_is N1 O1 _ K1.out.tab).mono ?_
    rintro e w2 ⟨rfl, hB2⟩
    have K2 : Hd (PStays w a0 len0 bs w2) := ⟨K1.out.next hB2⟩
    clear hB2 K1
    go_wp2_with fail
    refine (specPairSign_is N1 O1 _).mono ?_
    rintro e w3 ⟨rfl, hw⟩
    replace hw := hw.symm
    subst hw
    go_wp2_with fail
    refine (drawSignPair_any a0 len0 cap0 bs _ hl K2.out.reads).mono ?_
    rintro e w4 ⟨m, rfl, hm, hB4⟩
    have K4 : Hd (PStays w a0 len0 bs w4) := ⟨K2.out.next hB4⟩
    have M4 : Hd (m ≤ 9223372036854775807) := ⟨hm⟩
    clear hB4 K2 hm
    obtain ⟨a, ha⟩ : ∃ a, spA m = a := ⟨_, rfl⟩
    have A1 : Hd (spA m = a) := ⟨ha⟩
    obtain ⟨b, hb'⟩ : ∃ b, spB m = b := ⟨_, rfl⟩
    have A2 : Hd (spB m = b) := ⟨hb'⟩
    obtain ⟨is, his⟩ : ∃ is, spOk m = is := ⟨_, rfl⟩
    have A3 : Hd (spOk m = is) := ⟨his⟩
    clear ha hb' his
    go_wp2_with fail
    refine (implSignPair_is A1 A2 A3 _ K4.out.tab M4.out).mono ?_
    rintro e w5 ⟨rfl, hB5⟩
    have K5 : Hd (PStays w a0 len0 bs w5) := ⟨K4.out.next hB5⟩
    clear hB5 K4
    go_wp2_with fail
    refine (specSignPair_is A1 A2 A3 _).mono ?_
    rintro e w6 ⟨rfl, hw⟩
    replace hw := hw.symm
    subst hw
    clear A1 A2 A3 M4
    go_wp2_with fail
    refine (drawEucSign_any a0 len0 cap0 bs _ hl K5.out.reads).mono ?_
    rintro e w7 ⟨q7, m7, c7, es, i, rfl, hes, hm7, hi7, hq7, hO7, hB7⟩
    have K7 : Hd (PStays w a0 len0 bs w7) := ⟨K5.out.next hB7⟩
    have hc7 : m7 ≤ c7 := by have := hO7.le; omega
    have E7 : Hd (Lies w7 q7 m7 es) := ⟨hO7.lies hes⟩
    obtain ⟨⟨y, en, got⟩, hE⟩ : ∃ r, eucAt es i = r := ⟨_, rfl⟩
    have HE : Hd (eucAt es i = (y, en, got)) := ⟨hE⟩
    clear hB7 K5 hes hi7 hq7 hO7 hE
    go_wp2_with fail
    refine (implEucSign_any q7 0 m7 c7 es i _ E7.out.size E7.out.cell (by omega) ⟨K7.out.tab⟩).mono ?_
    rintro e w8 ⟨rfl, hB8⟩
    rewrite [HE.out]
    have K8 : Hd (PStays w a0 len0 bs w8) := ⟨K7.out.next hB8⟩
    have E8 : Hd (Lies w8 q7 m7 es) := ⟨E7.out.below hB8⟩
    clear hB8 K7 E7
    go_wp2_with fail
    refine (specEucSign_any q7 0 m7 c7 es i _ E8.out.size E8.out.cell (by omega)).mono ?_
    rintro e w9 ⟨rfl, hB9⟩
    rewrite [HE.out]
    have K9 : Hd (PStays w a0 len0 bs w9) := ⟨K8.out.next hB9⟩
    have E9 : Hd (Lies w9 q7 m7 es) := ⟨E8.out.below hB9⟩
    clear hB9 K8 E8
    go_wp2_with fail
    refine (drawPutEuc_any a0 len0 cap0 bs _ hl K9.out.reads).mono ?_
    rintro e w10 ⟨q10, m10, c10, fs, k, rfl, hfs, hm10, hk, hq10, hO10, hB10⟩
    have K10 : Hd (PStays w a0 len0 bs w10) := ⟨K9.out.next hB10⟩
    have E10 : Hd (Lies w10 q7 m7 es) := ⟨E9.out.below hB10⟩
    have F10 : Hd (Lies w10 q10 m10 fs) := ⟨hO10.lies hfs⟩
    have Hk : Hd (k ≤ 9223372036854775807) := ⟨hk⟩
    clear hB10 K9 E9 hfs hk hq10 hO10
    obtain ⟨put, hput⟩ : ∃ put, eucOk k = put := ⟨_, rfl⟩
    have PU : Hd (eucOk k = put) := ⟨hput⟩
    obtain ⟨gs, hgs⟩ : ∃ gs, fs ++ eucB k = gs := ⟨_, rfl⟩
    have GS : Hd (fs ++ eucB k = gs) := ⟨hgs⟩
    obtain ⟨ng, hng⟩ : ∃ ng, gs.length = ng := ⟨_, rfl⟩
    have NG : Hd (gs.length = ng) := ⟨hng⟩
    clear hput hgs hng
    go_wp2_with fail
    refine (implPutEuc_any q10 0 m10 c10 fs k _ F10.out.size F10.out.cell F10.out.lt (by omega) Hk.out ⟨K10.out.tab⟩).mono ?_
    rewrite [GS.out, PU.out]
    rintro e w11 ⟨g11, c11, rfl, _, hO11, hB11⟩
    rewrite [NG.out]
    have K11 : Hd (PStays w a0 len0 bs w11) := ⟨K10.out.next hB11⟩
    have E11 : Hd (Lies w11 q7 m7 es) := ⟨E10.out.below hB11⟩
    have F11 : Hd (Lies w11 q10 m10 fs) := ⟨F10.out.below hB11⟩
    have G11 : Hd (Lies w11 g11 ng gs) := ⟨hO11.lies NG.out⟩
    clear hB11 K10 E10 F10 hO11
    go_wp2_with fail
    refine (specPutEuc_any q10 0 m10 c10 fs k _ F11.out.size F11.out.cell F11.out.lt (by omega)).mono ?_
    rewrite [GS.out, PU.out]
    rintro e w12 ⟨g12, c12, rfl, _, hO12, hB12⟩
    rewrite [NG.out]
    have K12 : Hd (PStays w a0 len0 bs w12) := ⟨K11.out.next hB12⟩
    have E12 : Hd (Lies w12 q7 m7 es) := ⟨E11.out.below hB12⟩
    have v1 := (G11.out.below hB12).whole c11
    have v2 := (hO12.lies NG.out).whole c12
    clear hB12 K11 E11 F11 hO12 G11 GS PU Hk NG
    generalize gs.toArray = S at *
    have f1 : (ok != ok) = false := by simp
    have f2 : (n != n) = false := by simp
    have f3 : (is != is) = false := by simp
    have f4 : (a != a) = false := by simp
    have f5 : (b != b) = false := by simp
    have f6 : (got != got) = false := by simp
    have f7 : (put != put) = false := by simp
    have P1 : Hd (ok = true → spA n = hi ∧ spB n = lo ∧ spOk n = true ∧ n ≤ 9223372036854775807) := ⟨fun h => by
      have ho := O1.out.trans h
      have h1 := sp_ps ho
      have h2 := ps_big ho
      rw [N1.out] at h1 h2
      exact ⟨h1.1, h1.2.1, h1.2.2, by omega⟩⟩
    clear O1 N1
    have f8 : (hi != hi) = false := by simp
    have f9 : (lo != lo) = false := by simp
    cases got with
    | false =>
      clear E12 HE
      cases ok with
      | false =>
        go_wp2_with fail
        go_ret
        exact ⟨rfl, K12.out.below⟩
      | true =>
        obtain ⟨p1, p2, p3, p4⟩ := P1.out rfl
        have Q1 : Hd (spA n = hi) := ⟨p1⟩
        have Q2 : Hd (spB n = lo) := ⟨p2⟩
        have Q3 : Hd (spOk n = true) := ⟨p3⟩
        have Q4 : Hd (n ≤ 9223372036854775807) := ⟨p4⟩
        clear p1 p2 p3 p4 P1
        go_wp2_with fail
        refine (implSignPair_is Q1 Q2 Q3 _ K12.out.tab Q4.out).mono ?_
        rintro e w13 ⟨rfl, hB13⟩
        have K13 : Hd (PStays w a0 len0 bs w13) := ⟨K12.out.next hB13⟩
        clear hB13 K12 v1 v2
        go_wp2_with fail
        go_ret
        exact ⟨rfl, K13.out.below⟩
    | true =>
      obtain ⟨k0, sz, hi0, he0, hsz, hsz1, hey, hoy, hym⟩ := euc_told HE.out
      have HY : Hd (eucB y = (es.drop k0).take sz) := ⟨hey⟩
      have OY : Hd (eucOk y = true) := ⟨hoy⟩
      have MY : Hd (y ≤ 9223372036854775807) := ⟨hym⟩
      have hse : k0 + sz ≤ m7 := by have := E12.out.size; omega
      subst hi0 he0
      clear hey hoy hym hsz HE
      have d1 : (k0 : Int) ≤ (k0 : Int) + (sz : Int) := by omega
      have d2 : (k0 : Int) + (sz : Int) ≤ (c7 : Int) := by omega
      have d3 : ¬ c7 = k0 := by omega
      have d4 : (0 : Int) ≤ (k0 : Int) := by omega
      cases ok with
      | false =>
        go_wp2_with fail
        refine (implPutEuc_any w12.heap.size 0 0 0 [] y _ rfl (fun j hj => absurd hj (by omega)) (by simp) (by omega) MY.out ⟨K12.out.tab.below (below_lit _ _)⟩).mono ?_
        rewrite [List.nil_append, OY.out]
        rintro e w13 ⟨g13, c13, rfl, _, hO13, hB13⟩
        have hB14 : Below w12.heap.size w12 w13 := Below.next (below_lit _ _) hB13
        have K14 : Hd (PStays w a0 len0 bs w13) := ⟨K12.out.next hB14⟩
        have u1 := fun N => ((hO13.lies rfl).below (below_drewN' _ _ N)).whole c13
        have u2 := fun N => ((E12.out.below hB14).below (below_drewN' _ _ N)).conv k0 (((k0 : Int) + (sz : Int)).toNat - k0) sz (c7 - k0) (by omega) hse
        simp only [← HY.out] at u2
        clear hB14 hB13 hO13 K12 v1 v2 E12 HY OY MY P1
        generalize (eucB y).toArray = R at *
        generalize (eucB y).length = nr at *
        go_wp2_with fail
        go_quiet (fail)
        go_wp2_with fail
        go_ret
        exact ⟨ret_bool (by simp), Below.trans K14.out.below (below_drewN' _ _ _)⟩
      | true =>
        obtain ⟨p1, p2, p3, p4⟩ := P1.out rfl
        have Q1 : Hd (spA n = hi) := ⟨p1⟩
        have Q2 : Hd (spB n = lo) := ⟨p2⟩
        have Q3 : Hd (spOk n = true) := ⟨p3⟩
        have Q4 : Hd (n ≤ 9223372036854775807) := ⟨p4⟩
        clear p1 p2 p3 p4 P1
        go_wp2_with fail
        refine (implSignPair_is Q1 Q2 Q3 _ K12.out.tab Q4.out).mono ?_
        rintro e w12' ⟨rfl, hB12'⟩
        have K12' : Hd (PStays w a0 len0 bs w12') := ⟨K12.out.next hB12'⟩
        have E12' : Hd (Lies w12' q7 m7 es) := ⟨E12.out.below hB12'⟩
        clear hB12' K12 v1 v2 E12
        go_wp2_with fail
        refine (implPutEuc_any w12'.heap.size 0 0 0 [] y _ rfl (fun j hj => absurd hj (by omega)) (by simp) (by omega) MY.out ⟨K12'.out.tab.below (below_lit _ _)⟩).mono ?_
        rewrite [List.nil_append, OY.out]
        rintro e w13 ⟨g13, c13, rfl, _, hO13, hB13⟩
        have hB14 : Below w12'.heap.size w12' w13 := Below.next (below_lit _ _) hB13
        have K14 : Hd (PStays w a0 len0 bs w13) := ⟨K12'.out.next hB14⟩
        have u1 := fun N => ((hO13.lies rfl).below (below_drewN' _ _ N)).whole c13
        have u2 := fun N => ((E12'.out.below hB14).below (below_drewN' _ _ N)).conv k0 (((k0 : Int) + (sz : Int)).toNat - k0) sz (c7 - k0) (by omega) hse
        simp only [← HY.out] at u2
        clear hB14 hB13 hO13 K12' E12' HY OY MY
        generalize (eucB y).toArray = R at *
        generalize (eucB y).length = nr at *
        go_wp2_with fail
        go_quiet (fail)
        go_wp2_with fail
        go_ret
        exact ⟨ret_bool (by simp), Below.trans K14.out.below (below_drewN' _ _ _)⟩

set_option maxRecDepth 100000 in
theorem lifted (os : Os) (started : os.Started) (H : Type) (enc : TypeId × Value → H) :
    ReturnsInHanded {} Tryd.checked os 3 .any (fun w args => (Rows.fnPairsSpec.pre enc Tryd.prog Tryd.f3 Rows.fnPairsRow.domain false w args ∧ laidMetH Tryd.prog Rows.fnPairsRow.laid w) ∧ sizedMet enc Tryd.prog Tryd.f3 (OpenSpec.ofChange Rows.fnPairsSpec) false w args)
      (Rows.fnPairsSpec.post enc Tryd.prog Tryd.f3 false true false false) := by
  refine returnsInHanded_of_change_and (C := Tryd.checked) (X := fun w _ => laidMetH Tryd.prog Rows.fnPairsRow.laid w) (fun _ _ _ hh h => h.of_heap hh) own started (by kernel_rfl) Tryd.func3
    (ChangeSpec.witness_shaped (enc := enc) (C := Tryd.checked) (os := os) (X := fun w _ => laidMetH Tryd.prog Rows.fnPairsRow.laid w) false (World.laidAll Tryd.prog os Rows.fnPairsRow.laid) #[.slice none 0 0] 8 (World.laidAll_os _ _ _)
      (World.shaped_of_ZipB (by kernel_rfl) (by kernel_rfl)) (by kernel_rfl) (by kernel_rfl) (by kernel_rfl)
      (by rw [MakeChecks.laidMetH_plain _ _ _ (by kernel_rfl)]; exact laidMet_laidAll _ (by kernel_rfl) (by kernel_rfl))) ?_
  intro W base args ds gs before hval0 hW _ _ hL _
  have hval : ∀ (j : Nat) t v, Tryd.f3.params[j]? = some t → args[j]? = some v → Value.okWide Tryd.prog W .any base t v := hval0
  have hW' := hW
  obtain ⟨p, q, hA0, hV, rfl, hfz, hnd⟩ := hW
  have hA : DataW.TrodAll enc Tryd.prog W 0 (fun _ => true) true Tryd.f3.params.toList args.toList ds p := hA0
  rw [Tryd.params3] at hA hval
  obtain ⟨v0, vs0, d0, ds0, p0, q0, hargs, rfl, rfl, h0, r0⟩ := trodAll_cons hA
  obtain ⟨rfl, rfl, rfl⟩ := trodAll_nil r0
  obtain rfl : args = #[v0] := by cases args; simp_all
  have hV1 : DataW.TrodVars enc Tryd.prog W (fun _ => true) Rows.fnPairsSpec.vars gs q := hV
  obtain ⟨g1, rfl⟩ : ∃ g1, gs = [g1] := by
    match gs, (vars_length hV1 : gs.length = 1) with
    | [g1], _ => exact ⟨g1, rfl⟩
  obtain ⟨a0, len0, cap0, rfl⟩ := okWide_slice Tryd.underlying22 (hval 0 22 v0 rfl rfl)
  have k0 := h0
  have lt0 : ∀ x ∈ p0, x.block < W.heap.size := by obtain ⟨m, hm⟩ := k0; exact DataW.trod_lt m _ _ _ hm
  obtain ⟨z0, w0⟩ : ∃ zs, IsRow .u8 W a0 len0 cap0 zs := by
    obtain ⟨fuel, hf⟩ := h0
    rcases open_ints Tryd.underlying22 Tryd.underlying5 (by kernel_rfl) hf with ⟨hcs, _⟩ | ⟨x, l, c, zs, hcs, _, hl, hm, hz, _, hcell, hwz⟩
    · simp [Value.cells] at hcs
      obtain ⟨rfl, rfl, rfl⟩ := hcs
      exact ⟨[], .inl ⟨rfl, rfl, rfl, rfl⟩⟩
    · simp [Value.cells] at hcs
      obtain ⟨rfl, rfl, rfl⟩ := hcs
      exact ⟨zs, .inr ⟨_, rfl, hl, hm, by simpa using hz, hcell, hwz⟩⟩
  clear hA0 hval0
  refine (walk a0 len0 cap0 z0  W w0 ⟨pairs_of hL⟩).mono fun e W' ⟨he, hg⟩ => ?_
  subst he
  exact ⟨_, rfl, _, _, _, [], _, q, hW', trodAll_mk1 (shut_bool Tryd.underlying4 _), (trodAll_cons_mk (Below.trod laidOut (by kernel_rfl) (of_decide_eq_true (by kernel_rfl)) k0 hg lt0) trodAll_mk0), Below.trodVars laidOut hg (by kernel_rfl) hV1, hg.frame _, fun h => by cases h⟩

theorem over : Rows.fnPairsRow.holds Tryd.pinned (OpenSpec.ofChange Rows.fnPairsSpec) :=
  OpenClaim.holds_of_wide 3 Tryd.f3 rfl rfl rfl rfl rfl rfl rfl ⟨rfl, rfl, rfl, rfl, rfl⟩ rfl rfl rfl rfl rfl (by kernel_rfl) Tryd.func3 (by kernel_rfl)
    (of_decide_eq_true (by kernel_rfl)) (by unfold Func.isWrapper; first | (rw [if_pos (by decide +kernel)]; kernel_rfl) | (rw [if_neg (by decide +kernel)]; exact ⟨rfl, rfl⟩))
    (fun os started H enc _ => lifted os started H enc)

theorem plain (f : FuncId) (fn : Func) (hf : Tryd.pinned.checked.prog.funcNamed Rows.fnPairsRow.func = some f) (hfn : Tryd.pinned.checked.prog.funcs[f]? = some fn) :
    false = Tryd.pinned.checked.prog.looks [] ∧ ∀ (j : Nat) t, fn.params[j]? = some t → Tryd.pinned.checked.prog.wantsStandIn t = false := by
  obtain rfl : f = 3 := Option.some.inj ((show Tryd.prog.funcNamed Rows.fnPairsRow.func = some 3 by kernel_rfl).symm.trans hf) |>.symm
  obtain rfl : fn = Tryd.f3 := (Option.some.inj (Tryd.func3.symm.trans hfn)).symm
  refine ⟨by kernel_rfl, fun j t ht => ?_⟩
  rw [Tryd.params3] at ht
  have hm : t ∈ [22] := by simpa using Array.mem_of_getElem? ht
  have hall : ([22].all fun u => !Tryd.prog.wantsStandIn u) = true := by kernel_rfl
  exact (show Tryd.prog.wantsStandIn t = false by simpa using List.all_eq_true.1 hall t hm)

end Go.Proofs.YtbkmpijodgmloaaDoor.fnPairs

namespace Go.Proofs.YtbkmpijodgmloaaDoor
theorem fnPairsCard_holds : Rows.FnPairsCardSaid :=
  Claim7.holds_tied_plain_at .later [] _ _ _ _ fnPairs.over (fun _ h => by cases h) (by kernel_rfl) (fun _ h => by cases h) fnPairs_row_tie rfl ⟨rfl, rfl⟩ (by kernel_rfl) rfl fnPairs.plain (by kernel_rfl)
#print axioms fnPairsCard_holds
end Go.Proofs.YtbkmpijodgmloaaDoor
