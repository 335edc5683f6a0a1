/- For every code: of what is drawn of it, what impl reads of bytes is written as these bytes again, what it writes of a text is read as this text, and both are as the specification has it. -/
import Derived.Test.YtcddjfdmodpnjaaDoorCards
import Derived.Test.YtcddjfdmodpnjaaDoorTie
import Derived.WalkKit
import Derived.ProofKit
import Derived.OpenShut
import Derived.ShutString
import Derived.ChangeOld
import Derived.Below
import Derived.OpenVars
import Derived.Lay
import Derived.MakeChecks
import Derived.SevenTiedAt
import Derived.Stop.Joined
import Derived.Test.YtcddjfdmodpnjaaDoorCodeL
namespace Go.Proofs.YtcddjfdmodpnjaaDoor.fnCodes
open Go.ChangeShapes Go.WideShapes Go.ChangeAt Go.RowKit
open Go.ChangeMaps (open_string shut_string)
set_option linter.unusedVariables false

theorem own : ownKnob Tryd.prog.godebug = none := by kernel_rfl
theorem laidOut : laidOutB Tryd.prog = true := by kernel_rfl

def IsRow (k : IntKind) (w : World) (a : Option Addr) (len cap : Nat) (zs : List Int) : Prop :=
  (a = none ∧ len = 0 ∧ cap = 0 ∧ zs = []) ∨
  ∃ x, a = some x ∧ len ≤ cap ∧ cap ≤ maxLen ∧ zs.length = cap ∧ (∀ i, i < zs.length → w.cell? (x.add i) = some (.int k (zs.getD i 0))) ∧ ∀ n ∈ zs, (Lit.int k n).wf = true

set_option maxRecDepth 20000 in
set_option maxHeartbeats 8000000 in
theorem walk (a0 : Option Addr) (len0 cap0 : Nat) (z0 : List Int) (w : World) (w0 : IsRow .u8 w a0 len0 cap0 z0) (T : Hd (AllAt w)) :
    Calls Tryd.prog 3 #[.slice a0 len0 cap0] w fun e w' => e = .returned (.bool true) ∧ Below w.heap.size w w' := by
  obtain ⟨bs, hr⟩ := reads_of_row w0
  have K0 : Hd (CStays w a0 len0 bs w) := ⟨CStays.start T.out hr⟩
  clear hr w0 T
  by_cases hb : (1048576 : Int) < (len0 : Int)
  · have hbd : decide ((1048576 : Int) < (len0 : Int)) = true := decide_eq_true hb
    go_enter Tryd.func3, Tryd.ntmps3
    go_wp2_with (go_at_call 9; refine (big_any _ _ _ _).mono ?_; rintro e w' ⟨rfl, rfl⟩)
    go_ret
    exact ⟨rfl, Below.refl _ _⟩
  · have hbd : decide ((1048576 : Int) < (len0 : Int)) = false := decide_eq_false hb
    have hl : len0 ≤ 1073741824 := by omega
    go_enter Tryd.func3, Tryd.ntmps3
    go_wp2_with fail
    refine (big_any _ _ _ _).mono ?_
    rintro e w' ⟨rfl, hw'⟩
    replace hw' := hw'.symm
    subst hw'
    go_wp2_with fail
    refine (drawDecode_any a0 len0 cap0 bs _ hl K0.out.reads).mono ?_
    rintro e w1 ⟨cs, q1, m1, c1, ds, rfl, d1, d2, d3, d4, d5⟩
    have K1 : Hd (CStays w a0 len0 bs w1) := ⟨K0.out.next d5⟩
    have hc1 : m1 ≤ c1 := by have := d4.le; omega
    have E1 : Hd (Lies w1 q1 m1 ds) := ⟨d4.lies d1⟩
    have M1 : Hd (m1 ≤ 81) := ⟨d2⟩
    clear d1 d2 d3 d4 d5 K0
    obtain ⟨S, hS⟩ : ∃ S, (decS cs ds).toArray = S := ⟨_, rfl⟩
    have HS : Hd ((decS cs ds).toArray = S) := ⟨hS⟩
    obtain ⟨ok, hok⟩ : ∃ ok, decOk cs ds = ok := ⟨_, rfl⟩
    have HK : Hd (decOk cs ds = ok) := ⟨hok⟩
    clear hS hok
    go_wp2_with fail
    refine (implDecode_any cs q1 0 m1 c1 ds _ E1.out.size hc1 E1.out.cell (by have := M1.out; omega) ⟨K1.out.tabs⟩).mono ?_
    rintro e w2 ⟨rfl, hB2⟩
    rewrite [HS.out, HK.out]
    have K2 : Hd (CStays w a0 len0 bs w2) := ⟨K1.out.next hB2⟩
    have E2 : Hd (Lies w2 q1 m1 ds) := ⟨E1.out.below hB2⟩
    clear hB2 K1 E1
    go_wp2_with fail
    refine (specDecode_any cs q1 0 m1 c1 ds _ E2.out.size hc1 E2.out.cell (by have := M1.out; omega)).mono ?_
    rintro e w3 ⟨rfl, hB3⟩
    rewrite [HS.out, HK.out]
    have K3 : Hd (CStays w a0 len0 bs w3) := ⟨K2.out.next hB3⟩
    have E3 : Hd (Lies w3 q1 m1 ds) := ⟨E2.out.below hB3⟩
    clear hB3 K2 E2
    go_wp2_with fail
    refine (drawEncode_any a0 len0 cap0 bs _ hl K3.out.reads).mono ?_
    rintro e w4 ⟨d, u, rfl, hu, hB4⟩
    have K4 : Hd (CStays w a0 len0 bs w4) := ⟨K3.out.next hB4⟩
    have E4 : Hd (Lies w4 q1 m1 ds) := ⟨E3.out.below hB4⟩
    have HU : Hd (u.size ≤ 28) := ⟨hu⟩
    clear hB4 K3 E3 hu
    obtain ⟨es, hes⟩ : ∃ es, encS d u.data.toList = es := ⟨_, rfl⟩
    have HE : Hd (encS d u.data.toList = es) := ⟨hes⟩
    obtain ⟨is, his⟩ : ∃ is, encOk d u.data.toList = is := ⟨_, rfl⟩
    have HI : Hd (encOk d u.data.toList = is) := ⟨his⟩
    obtain ⟨ne, hne⟩ : ∃ ne, es.length = ne := ⟨_, rfl⟩
    have HN : Hd (es.length = ne) := ⟨hne⟩
    have NE : Hd (ne ≤ 112) := ⟨by have := encS_len4 d u.data.toList; rw [hes, hne, size_list] at this; have := HU.out; omega⟩
    clear hes his hne
    go_wp2_with fail
    refine (implEncode_any d u _ (by have := HU.out; omega) ⟨K4.out.tabs⟩).mono ?_
    rewrite [HE.out, HI.out]
    rintro e w5 ⟨g5, c5, rfl, _, hO5, hB5⟩
    rewrite [HN.out]
    have K5 : Hd (CStays w a0 len0 bs w5) := ⟨K4.out.next hB5⟩
    have E5 : Hd (Lies w5 q1 m1 ds) := ⟨E4.out.below hB5⟩
    have F5 : Hd (Lies w5 g5 ne es) := ⟨hO5.lies HN.out⟩
    have hc5 : ne ≤ c5 := by have := hO5.le; have := HN.out; omega
    clear hB5 hO5 K4 E4
    go_wp2_with fail
    refine (specEncode_any d u _ (by have := HU.out; omega)).mono ?_
    rewrite [HE.out, HI.out]
    rintro e w6 ⟨g6, c6, rfl, _, hO6, hB6⟩
    rewrite [HN.out]
    have K6 : Hd (CStays w a0 len0 bs w6) := ⟨K5.out.next hB6⟩
    have E6 : Hd (Lies w6 q1 m1 ds) := ⟨E5.out.below hB6⟩
    have F6 : Hd (Lies w6 g5 ne es) := ⟨F5.out.below hB6⟩
    have G6 : Hd (Lies w6 g6 ne es) := ⟨hO6.lies HN.out⟩
    clear hB6 hO6 K5 E5 F5
    go_wp2_with fail
    refine (drawFits_any a0 len0 cap0 bs _ hl K6.out.reads).mono ?_
    rintro e w7 ⟨v, x, rfl, hx, hB7⟩
    have K7 : Hd (CStays w a0 len0 bs w7) := ⟨K6.out.next hB7⟩
    have E7 : Hd (Lies w7 q1 m1 ds) := ⟨E6.out.below hB7⟩
    have F7 : Hd (Lies w7 g5 ne es) := ⟨F6.out.below hB7⟩
    have v1 := F7.out.whole c5
    have v2 := (G6.out.below hB7).whole c6
    have HX : Hd (x.size ≤ 28) := ⟨hx⟩
    clear hB7 K6 E6 F6 G6 hx
    obtain ⟨R, hR⟩ : ∃ R, es.toArray = R := ⟨_, rfl⟩
    rw [hR] at v1 v2
    clear hR
    obtain ⟨ft, hft⟩ : ∃ ft, encOk v x.data.toList = ft := ⟨_, rfl⟩
    have HF : Hd (encOk v x.data.toList = ft) := ⟨hft⟩
    clear hft
    have f1 : (ok != ok) = false := by simp
    have f2 : (is != is) = false := by simp
    have f3 : (ft != ft) = false := by simp
    go_wp2_with fail
    refine (implFits_any v x _ (by have := HX.out; omega) ⟨K7.out.tabs⟩).mono ?_
    rewrite [HF.out]
    rintro e w8 ⟨rfl, hB8⟩
    have K8 : Hd (CStays w a0 len0 bs w8) := ⟨K7.out.next hB8⟩
    have E8 : Hd (Lies w8 q1 m1 ds) := ⟨E7.out.below hB8⟩
    have F8 : Hd (Lies w8 g5 ne es) := ⟨F7.out.below hB8⟩
    clear hB8 K7 E7 F7 v1 v2
    go_wp2_with fail
    refine (specFits_any v x _ (by have := HX.out; omega)).mono ?_
    rewrite [HF.out]
    rintro e w9 ⟨rfl, hB9⟩
    have K9 : Hd (CStays w a0 len0 bs w9) := ⟨K8.out.next hB9⟩
    have E9 : Hd (Lies w9 q1 m1 ds) := ⟨E8.out.below hB9⟩
    have F9 : Hd (Lies w9 g5 ne es) := ⟨F8.out.below hB9⟩
    clear hB9 K8 E8 F8
    go_wp2_with fail
    refine (implFits_any d u _ (by have := HU.out; omega) ⟨K9.out.tabs⟩).mono ?_
    rewrite [HI.out]
    rintro e w10 ⟨rfl, hB10⟩
    have K10 : Hd (CStays w a0 len0 bs w10) := ⟨K9.out.next hB10⟩
    have E10 : Hd (Lies w10 q1 m1 ds) := ⟨E9.out.below hB10⟩
    have F10 : Hd (Lies w10 g5 ne es) := ⟨F9.out.below hB10⟩
    clear hB10 K9 E9 F9 HX HF
    have P2 : Hd (is = true → decOk d es = true ∧ (decS d es).toArray = u.data) := ⟨fun h => by
      have := enc_dec (HI.out.trans h)
      rw [HE.out] at this
      exact ⟨this.1, by rw [this.2]⟩⟩
    cases ok with
    | false =>
      cases is with
      | false =>
        go_wp2_with fail
        go_ret
        exact ⟨rfl, K10.out.below⟩
      | true =>
        obtain ⟨p1, p2⟩ := P2.out rfl
        have Q1 : Hd (decOk d es = true) := ⟨p1⟩
        have Q2 : Hd ((decS d es).toArray = u.data) := ⟨p2⟩
        clear p1 p2 P2 HI
        go_wp2_with fail
        refine (implDecode_any d g5 0 ne c5 es _ F10.out.size hc5 F10.out.cell (by have := NE.out; omega) ⟨K10.out.tabs⟩).mono ?_
        rintro e w11 ⟨rfl, hB11⟩
        rewrite [Q1.out, Q2.out]
        have K11 : Hd (CStays w a0 len0 bs w11) := ⟨K10.out.next hB11⟩
        clear hB11 K10 E10 F10
        go_wp2_with fail
        go_ret
        exact ⟨rfl, K11.out.below⟩
    | true =>
      obtain ⟨t1, t2, l3, t3⟩ := dec_enc HK.out
      have hsl : (⟨S⟩ : ByteArray).size ≤ 1048576 := by
        rw [← HS.out, size_of]; have := decS_len cs ds; have := E10.out.size; have := M1.out; omega
      have HL : Hd ((⟨S⟩ : ByteArray).data.toList = decS cs ds) := ⟨by rw [← HS.out]⟩
      have T1 : Hd (encOk cs (⟨S⟩ : ByteArray).data.toList = true) := ⟨by rw [HL.out]; exact t1⟩
      have T2 : Hd (encS cs (⟨S⟩ : ByteArray).data.toList = ds) := ⟨by rw [HL.out]; exact t2⟩
      have T3 : Hd (Signed (⟨S⟩ : ByteArray).data.toList l3) := ⟨by rw [HL.out]; exact t3⟩
      have HSZ : Hd ((⟨S⟩ : ByteArray).size ≤ 1048576) := ⟨hsl⟩
      clear t1 t2 t3 hsl HL HS HK
      go_wp2_with fail
      refine (implEncode_any cs ⟨S⟩ _ HSZ.out ⟨K10.out.tabs⟩).mono ?_
      rewrite [T1.out, T2.out]
      rintro e w11 ⟨g11, c11, rfl, _, hO11, hB11⟩
      rewrite [E10.out.size]
      have K11 : Hd (CStays w a0 len0 bs w11) := ⟨K10.out.next hB11⟩
      have F11 : Hd (Lies w11 g5 ne es) := ⟨F10.out.below hB11⟩
      have v1 := (hO11.lies E10.out.size).whole c11
      have v2 := (E10.out.below hB11).whole c1
      clear hB11 hO11 K10 E10 F10 T1 T2
      obtain ⟨R2, hR2⟩ : ∃ R2, ds.toArray = R2 := ⟨_, rfl⟩
      rw [hR2] at v1 v2
      clear hR2
      go_wp2_with fail
      refine (implUtf8Ok_any ⟨S⟩ _ (by have := HSZ.out; omega)).mono ?_
      rintro e w12 ⟨l12, ok12, rfl, hA12, hB12⟩
      obtain rfl := signs_true hA12 T3.out
      have K12 : Hd (CStays w a0 len0 bs w12) := ⟨K11.out.next hB12⟩
      have F12 : Hd (Lies w12 g5 ne es) := ⟨F11.out.below hB12⟩
      clear hA12 hB12 K11 F11 T3 HSZ v1 v2
      cases is with
      | false =>
        go_wp2_with fail
        go_ret
        exact ⟨rfl, K12.out.below⟩
      | true =>
        obtain ⟨p1, p2⟩ := P2.out rfl
        have Q1 : Hd (decOk d es = true) := ⟨p1⟩
        have Q2 : Hd ((decS d es).toArray = u.data) := ⟨p2⟩
        clear p1 p2 P2 HI
        go_wp2_with fail
        refine (implDecode_any d g5 0 ne c5 es _ F12.out.size hc5 F12.out.cell (by have := NE.out; omega) ⟨K12.out.tabs⟩).mono ?_
        rintro e w13 ⟨rfl, hB13⟩
        rewrite [Q1.out, Q2.out]
        have K13 : Hd (CStays w a0 len0 bs w13) := ⟨K12.out.next hB13⟩
        clear hB13 K12 F12
        go_wp2_with fail
        go_ret
        exact ⟨rfl, K13.out.below⟩

set_option maxRecDepth 100000 in
theorem lifted (os : Os) (started : os.Started) (H : Type) (enc : TypeId × Value → H) :
    ReturnsInHanded {} Tryd.checked os 3 .any (fun w args => (Rows.fnCodesSpec.pre enc Tryd.prog Tryd.f3 Rows.fnCodesRow.domain false w args ∧ laidMetH Tryd.prog Rows.fnCodesRow.laid w) ∧ sizedMet enc Tryd.prog Tryd.f3 (OpenSpec.ofChange Rows.fnCodesSpec) false w args)
      (Rows.fnCodesSpec.post enc Tryd.prog Tryd.f3 false true false false) := by
  refine returnsInHanded_of_change_and (C := Tryd.checked) (X := fun w _ => laidMetH Tryd.prog Rows.fnCodesRow.laid w) (fun _ _ _ hh h => h.of_heap hh) own started (by kernel_rfl) Tryd.func3
    (ChangeSpec.witness_shaped (enc := enc) (C := Tryd.checked) (os := os) (X := fun w _ => laidMetH Tryd.prog Rows.fnCodesRow.laid w) false (World.laidAll Tryd.prog os Rows.fnCodesRow.laid) #[.slice none 0 0] 8 (World.laidAll_os _ _ _)
      (World.shaped_of_ZipB (by kernel_rfl) (by kernel_rfl)) (by kernel_rfl) (by kernel_rfl) (by kernel_rfl)
      (by rw [MakeChecks.laidMetH_plain _ _ _ (by kernel_rfl)]; exact laidMet_laidAll _ (by kernel_rfl) (by kernel_rfl))) ?_
  intro W base args ds gs before hval0 hW _ _ hL _
  have hval : ∀ (j : Nat) t v, Tryd.f3.params[j]? = some t → args[j]? = some v → Value.okWide Tryd.prog W .any base t v := hval0
  have hW' := hW
  obtain ⟨p, q, hA0, hV, rfl, hfz, hnd⟩ := hW
  have hA : DataW.TrodAll enc Tryd.prog W 0 (fun _ => true) true Tryd.f3.params.toList args.toList ds p := hA0
  rw [Tryd.params3] at hA hval
  obtain ⟨v0, vs0, d0, ds0, p0, q0, hargs, rfl, rfl, h0, r0⟩ := trodAll_cons hA
  obtain ⟨rfl, rfl, rfl⟩ := trodAll_nil r0
  obtain rfl : args = #[v0] := by cases args; simp_all
  have hV1 : DataW.TrodVars enc Tryd.prog W (fun _ => true) Rows.fnCodesSpec.vars gs q := hV
  obtain ⟨g1, g2, g3, g4, rfl⟩ : ∃ g1 g2 g3 g4, gs = [g1, g2, g3, g4] := by
    match gs, (vars_length hV1 : gs.length = 4) with
    | [g1, g2, g3, g4], _ => exact ⟨g1, g2, g3, g4, rfl⟩
  obtain ⟨a0, len0, cap0, rfl⟩ := okWide_slice Tryd.underlying22 (hval 0 22 v0 rfl rfl)
  have k0 := h0
  have lt0 : ∀ x ∈ p0, x.block < W.heap.size := by obtain ⟨m, hm⟩ := k0; exact DataW.trod_lt m _ _ _ hm
  obtain ⟨z0, w0⟩ : ∃ zs, IsRow .u8 W a0 len0 cap0 zs := by
    obtain ⟨fuel, hf⟩ := h0
    rcases open_ints Tryd.underlying22 Tryd.underlying5 (by kernel_rfl) hf with ⟨hcs, _⟩ | ⟨x, l, c, zs, hcs, _, hl, hm, hz, _, hcell, hwz⟩
    · simp [Value.cells] at hcs
      obtain ⟨rfl, rfl, rfl⟩ := hcs
      exact ⟨[], .inl ⟨rfl, rfl, rfl, rfl⟩⟩
    · simp [Value.cells] at hcs
      obtain ⟨rfl, rfl, rfl⟩ := hcs
      exact ⟨zs, .inr ⟨_, rfl, hl, hm, by simpa using hz, hcell, hwz⟩⟩
  clear hA0 hval0
  refine (walk a0 len0 cap0 z0 W w0 ⟨all_of hL⟩).mono fun e W' ⟨he, hg⟩ => ?_
  subst he
  exact ⟨_, rfl, _, _, _, [], _, q, hW', trodAll_mk1 (shut_bool Tryd.underlying4 _), (trodAll_cons_mk (Below.trod laidOut (by kernel_rfl) (of_decide_eq_true (by kernel_rfl)) k0 hg lt0) trodAll_mk0), Below.trodVars laidOut hg (by kernel_rfl) hV1, hg.frame _, fun h => by cases h⟩

theorem over : Rows.fnCodesRow.holds Tryd.pinned (OpenSpec.ofChange Rows.fnCodesSpec) :=
  OpenClaim.holds_of_wide 3 Tryd.f3 rfl rfl rfl rfl rfl rfl rfl ⟨rfl, rfl, rfl, rfl, rfl⟩ rfl rfl rfl rfl rfl (by kernel_rfl) Tryd.func3 (by kernel_rfl)
    (of_decide_eq_true (by kernel_rfl)) (by unfold Func.isWrapper; first | (rw [if_pos (by decide +kernel)]; kernel_rfl) | (rw [if_neg (by decide +kernel)]; exact ⟨rfl, rfl⟩))
    (fun os started H enc _ => lifted os started H enc)

theorem plain (f : FuncId) (fn : Func) (hf : Tryd.pinned.checked.prog.funcNamed Rows.fnCodesRow.func = some f) (hfn : Tryd.pinned.checked.prog.funcs[f]? = some fn) :
    true = Tryd.pinned.checked.prog.looks [] ∧ ∀ (j : Nat) t, fn.params[j]? = some t → Tryd.pinned.checked.prog.wantsStandIn t = false := by
  obtain rfl : f = 3 := Option.some.inj ((show Tryd.prog.funcNamed Rows.fnCodesRow.func = some 3 by kernel_rfl).symm.trans hf) |>.symm
  obtain rfl : fn = Tryd.f3 := (Option.some.inj (Tryd.func3.symm.trans hfn)).symm
  refine ⟨by kernel_rfl, fun j t ht => ?_⟩
  rw [Tryd.params3] at ht
  have hm : t ∈ [22] := by simpa using Array.mem_of_getElem? ht
  have hall : ([22].all fun u => !Tryd.prog.wantsStandIn u) = true := by kernel_rfl
  exact (show Tryd.prog.wantsStandIn t = false by simpa using List.all_eq_true.1 hall t hm)

end Go.Proofs.YtcddjfdmodpnjaaDoor.fnCodes

namespace Go.Proofs.YtcddjfdmodpnjaaDoor
theorem fnCodesCard_holds : Rows.FnCodesCardSaid :=
  Claim7.holds_tied_plain_at .later [] _ _ _ _ fnCodes.over (fun _ h => by cases h) (by kernel_rfl) (fun _ h => by cases h) fnCodes_row_tie rfl ⟨rfl, rfl⟩ (by kernel_rfl) rfl fnCodes.plain (by kernel_rfl)
#print axioms fnCodesCard_holds
end Go.Proofs.YtcddjfdmodpnjaaDoor
