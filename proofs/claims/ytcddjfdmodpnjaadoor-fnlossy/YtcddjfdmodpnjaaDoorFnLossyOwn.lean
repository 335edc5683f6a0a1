/- For every code: of what is drawn of it, where nothing is lost impl's lossy reading and writing are as without loss, else as many are told as were lost, as the specification has it. -/
import Derived.Test.YtcddjfdmodpnjaaDoorCards
import Derived.Test.YtcddjfdmodpnjaaDoorTie
import Derived.WalkKit
import Derived.ProofKit
import Derived.OpenShut
import Derived.ShutString
import Derived.ChangeOld
import Derived.Below
import Derived.OpenVars
import Derived.Lay
import Derived.MakeChecks
import Derived.SevenTiedAt
import Derived.Stop.Joined
import Derived.Test.YtcddjfdmodpnjaaDoorCodeL
namespace Go.Proofs.YtcddjfdmodpnjaaDoor.fnLossy
open Go.ChangeShapes Go.WideShapes Go.ChangeAt Go.RowKit
open Go.ChangeMaps (open_string shut_string)
set_option linter.unusedVariables false

theorem own : ownKnob Tryd.prog.godebug = none := by kernel_rfl
theorem laidOut : laidOutB Tryd.prog = true := by kernel_rfl

def IsRow (k : IntKind) (w : World) (a : Option Addr) (len cap : Nat) (zs : List Int) : Prop :=
  (a = none ∧ len = 0 ∧ cap = 0 ∧ zs = []) ∨
  ∃ x, a = some x ∧ len ≤ cap ∧ cap ≤ maxLen ∧ zs.length = cap ∧ (∀ i, i < zs.length → w.cell? (x.add i) = some (.int k (zs.getD i 0))) ∧ ∀ n ∈ zs, (Lit.int k n).wf = true

set_option maxRecDepth 20000 in
set_option maxHeartbeats 8000000 in
theorem walk (a0 : Option Addr) (len0 cap0 : Nat) (z0 : List Int) (w : World) (w0 : IsRow .u8 w a0 len0 cap0 z0) (T : Hd (AllAt w)) :
    Calls Tryd.prog 4 #[.slice a0 len0 cap0] w fun e w' => e = .returned (.bool true) ∧ Below w.heap.size w w' := by
  obtain ⟨bs, hr⟩ := reads_of_row w0
  have K0 : Hd (CStays w a0 len0 bs w) := ⟨CStays.start T.out hr⟩
  clear hr w0 T
  by_cases hb : (1048576 : Int) < (len0 : Int)
  · have hbd : decide ((1048576 : Int) < (len0 : Int)) = true := decide_eq_true hb
    go_enter Tryd.func4, Tryd.ntmps4
    go_wp2_with (go_at_call 9; refine (big_any _ _ _ _).mono ?_; rintro e w' ⟨rfl, rfl⟩)
    go_ret
    exact ⟨rfl, Below.refl _ _⟩
  · have hbd : decide ((1048576 : Int) < (len0 : Int)) = false := decide_eq_false hb
    have hl : len0 ≤ 1073741824 := by omega
    go_enter Tryd.func4, Tryd.ntmps4
    go_wp2_with fail
    refine (big_any _ _ _ _).mono ?_
    rintro e w' ⟨rfl, hw'⟩
    replace hw' := hw'.symm
    subst hw'
    go_wp2_with fail
    refine (drawDecodeLossy_any a0 len0 cap0 bs _ hl K0.out.reads).mono ?_
    rintro e w1 ⟨cs, q1, m1, c1, ds, rfl, d1, d2, d3, d4, d5⟩
    have K1 : Hd (CStays w a0 len0 bs w1) := ⟨K0.out.next d5⟩
    have hc1 : m1 ≤ c1 := by have := d4.le; omega
    have E1 : Hd (Lies w1 q1 m1 ds) := ⟨d4.lies d1⟩
    have M1 : Hd (m1 ≤ 81) := ⟨d2⟩
    clear d1 d2 d3 d4 d5 K0
    obtain ⟨S, hS⟩ : ∃ S : ByteArray, (⟨(decLS cs ds).toArray⟩ : ByteArray) = S := ⟨_, rfl⟩
    have HS : Hd ((⟨(decLS cs ds).toArray⟩ : ByteArray) = S) := ⟨hS⟩
    obtain ⟨n, hn⟩ : ∃ n, decLN cs ds = n := ⟨_, rfl⟩
    have HN : Hd (decLN cs ds = n) := ⟨hn⟩
    obtain ⟨U, hU⟩ : ∃ U : ByteArray, (⟨(decS cs ds).toArray⟩ : ByteArray) = U := ⟨_, rfl⟩
    have HU : Hd ((⟨(decS cs ds).toArray⟩ : ByteArray) = U) := ⟨hU⟩
    obtain ⟨ok, hok⟩ : ∃ ok, decOk cs ds = ok := ⟨_, rfl⟩
    have HK : Hd (decOk cs ds = ok) := ⟨hok⟩
    have P1 : Hd (ok = true → n = 0 ∧ U = S) := ⟨fun h => by
      have := dec_lossy (hok.trans h)
      exact ⟨hn.symm.trans this.1, by rw [← hU, ← hS, this.2]⟩⟩
    have P3 : Hd (ok = false → 0 < n ∨ S = ⟨#[]⟩) := ⟨fun h => by
      rcases dec_lost (hok.trans h) with h | h
      · exact .inl (by rw [← hn]; exact h)
      · exact .inr (by rw [← hS, h])⟩
    obtain ⟨l3, t3⟩ := decLS_signed cs ds
    have T3 : Hd (Signed S.data.toList l3) := ⟨by rw [← hS]; exact t3⟩
    have HSZ : Hd (S.size ≤ 1048576) := ⟨by rw [← hS, size_of]; have := decLS_len cs ds; have := E1.out.size; have := M1.out; omega⟩
    clear hS hok hn hU t3
    go_wp2_with fail
    refine (implDecodeLossy_any cs q1 0 m1 c1 ds _ E1.out.size hc1 E1.out.cell (by have := M1.out; omega) ⟨K1.out.tabs⟩).mono ?_
    rintro e w2 ⟨rfl, hB2⟩
    rewrite [HS.out, HN.out]
    have K2 : Hd (CStays w a0 len0 bs w2) := ⟨K1.out.next hB2⟩
    have E2 : Hd (Lies w2 q1 m1 ds) := ⟨E1.out.below hB2⟩
    clear hB2 K1 E1
    go_wp2_with fail
    refine (specDecodeLossy_any cs q1 0 m1 c1 ds _ E2.out.size hc1 E2.out.cell (by have := M1.out; omega)).mono ?_
    rintro e w3 ⟨rfl, hB3⟩
    rewrite [HS.out, HN.out]
    have K3 : Hd (CStays w a0 len0 bs w3) := ⟨K2.out.next hB3⟩
    have E3 : Hd (Lies w3 q1 m1 ds) := ⟨E2.out.below hB3⟩
    clear hB3 K2 E2 HS HN
    go_wp2_with fail
    refine (implDecode_any cs q1 0 m1 c1 ds _ E3.out.size hc1 E3.out.cell (by have := M1.out; omega) ⟨K3.out.tabs⟩).mono ?_
    rintro e w4 ⟨rfl, hB4⟩
    rewrite [HU.out, HK.out]
    have K4 : Hd (CStays w a0 len0 bs w4) := ⟨K3.out.next hB4⟩
    clear hB4 K3 E3 HU HK M1
    go_wp2_with fail
    refine (drawEncodeLossy_any a0 len0 cap0 bs _ hl K4.out.reads).mono ?_
    rintro e w5 ⟨d, v, rfl, hv, hB5⟩
    have K5 : Hd (CStays w a0 len0 bs w5) := ⟨K4.out.next hB5⟩
    have HV : Hd (v.size ≤ 28) := ⟨hv⟩
    clear hB5 K4 hv
    obtain ⟨es, hes⟩ : ∃ es, encLS d v.data.toList = es := ⟨_, rfl⟩
    have HE : Hd (encLS d v.data.toList = es) := ⟨hes⟩
    obtain ⟨k, hk⟩ : ∃ k, encLN d v.data.toList = k := ⟨_, rfl⟩
    have HKK : Hd (encLN d v.data.toList = k) := ⟨hk⟩
    obtain ⟨fs, hfs⟩ : ∃ fs, encS d v.data.toList = fs := ⟨_, rfl⟩
    have HF : Hd (encS d v.data.toList = fs) := ⟨hfs⟩
    obtain ⟨is, his⟩ : ∃ is, encOk d v.data.toList = is := ⟨_, rfl⟩
    have HI : Hd (encOk d v.data.toList = is) := ⟨his⟩
    obtain ⟨ne, hne⟩ : ∃ ne, es.length = ne := ⟨_, rfl⟩
    have HN : Hd (es.length = ne) := ⟨hne⟩
    obtain ⟨nf, hnf⟩ : ∃ nf, fs.length = nf := ⟨_, rfl⟩
    have HNF : Hd (fs.length = nf) := ⟨hnf⟩
    obtain ⟨EB, hEB⟩ : ∃ EB : ByteArray, (⟨es.toArray⟩ : ByteArray) = EB := ⟨_, rfl⟩
    have HEB : Hd ((⟨es.toArray⟩ : ByteArray) = EB) := ⟨hEB⟩
    obtain ⟨FB, hFB⟩ : ∃ FB : ByteArray, (⟨fs.toArray⟩ : ByteArray) = FB := ⟨_, rfl⟩
    have HFB : Hd ((⟨fs.toArray⟩ : ByteArray) = FB) := ⟨hFB⟩
    have P2 : Hd (is = true → k = 0 ∧ FB = EB) := ⟨fun h => by
      have := enc_lossy (his.trans h)
      exact ⟨hk.symm.trans this.1, by rw [← hFB, ← hEB, ← hfs, ← hes, this.2]⟩⟩
    clear hes hk hfs his hne hnf hEB hFB
    go_wp2_with fail
    refine (implEncodeLossy_any d v _ (by have := HV.out; omega) ⟨K5.out.tabs⟩).mono ?_
    rewrite [HE.out, HKK.out]
    rintro e w6 ⟨g6, c6, rfl, _, hO6, hB6⟩
    rewrite [HN.out]
    have K6 : Hd (CStays w a0 len0 bs w6) := ⟨K5.out.next hB6⟩
    have F6 : Hd (Lies w6 g6 ne es) := ⟨hO6.lies HN.out⟩
    clear hB6 hO6 K5
    go_wp2_with fail
    refine (specEncodeLossy_any d v _ (by have := HV.out; omega)).mono ?_
    rewrite [HE.out, HKK.out]
    rintro e w7 ⟨g7, c7, rfl, _, hO7, hB7⟩
    rewrite [HN.out]
    have K7 : Hd (CStays w a0 len0 bs w7) := ⟨K6.out.next hB7⟩
    have F7 : Hd (Lies w7 g6 ne es) := ⟨F6.out.below hB7⟩
    have G7 : Hd (Lies w7 g7 ne es) := ⟨hO7.lies HN.out⟩
    clear hB7 hO7 K6 F6
    go_wp2_with fail
    refine (implEncode_any d v _ (by have := HV.out; omega) ⟨K7.out.tabs⟩).mono ?_
    rewrite [HF.out, HI.out]
    rintro e w8 ⟨g8, c8, rfl, _, hO8, hB8⟩
    rewrite [HNF.out]
    have K8 : Hd (CStays w a0 len0 bs w8) := ⟨K7.out.next hB8⟩
    have F8 : Hd (Lies w8 g6 ne es) := ⟨F7.out.below hB8⟩
    have J8 : Hd (Lies w8 g8 nf fs) := ⟨hO8.lies HNF.out⟩
    have v1 := F8.out.whole c6
    have v2 := (G7.out.below hB8).whole c7
    rw [HEB.out] at v1 v2
    clear hB8 hO8 K7 F7 G7 HE HKK HF HI
    have f1 : ((n : Int) != (n : Int)) = false := by simp
    have f2 : ((k : Int) != (k : Int)) = false := by simp
    go_wp2_with fail
    refine (implUtf8Ok_any S _ (by have := HSZ.out; omega)).mono ?_
    rintro e w9 ⟨l9, ok9, rfl, hA9, hB9⟩
    obtain rfl := signs_true hA9 T3.out
    have K9 : Hd (CStays w a0 len0 bs w9) := ⟨K8.out.next hB9⟩
    have u1 := (F8.out.below hB9).whole c6
    have u2 := (J8.out.below hB9).whole c8
    rw [HEB.out] at u1
    rw [HFB.out] at u2
    clear hA9 hB9 K8 F8 J8 T3 HSZ v1 v2 HEB HFB
    cases ok with
    | true =>
      obtain ⟨p1, p2⟩ := P1.out rfl
      subst p1 p2
      cases is with
      | true =>
        obtain ⟨r1, r2⟩ := P2.out rfl
        subst r1 r2
        clear P1 P2 P3
        go_wp2_with fail
        go_ret
        exact ⟨rfl, K9.out.below⟩
      | false =>
        clear P1 P2 P3
        go_wp2_with fail
        go_ret
        exact ⟨rfl, K9.out.below⟩
    | false =>
      cases is with
      | true =>
        obtain ⟨r1, r2⟩ := P2.out rfl
        subst r1 r2
        rcases P3.out rfl with h | h
        · have hI : (0 : Int) < (n : Int) := by omega
          clear P1 P2 P3 h
          go_wp2_with fail
          go_ret
          exact ⟨rfl, K9.out.below⟩
        · subst h
          clear P1 P2 P3
          by_cases hI : (0 : Int) < (n : Int)
          · go_wp2_with fail
            go_ret
            exact ⟨rfl, K9.out.below⟩
          · go_wp2_with fail
            go_ret
            exact ⟨rfl, K9.out.below⟩
      | false =>
        rcases P3.out rfl with h | h
        · have hI : (0 : Int) < (n : Int) := by omega
          clear P1 P2 P3 h
          go_wp2_with fail
          go_ret
          exact ⟨rfl, K9.out.below⟩
        · subst h
          clear P1 P2 P3
          by_cases hI : (0 : Int) < (n : Int)
          · go_wp2_with fail
            go_ret
            exact ⟨rfl, K9.out.below⟩
          · go_wp2_with fail
            go_ret
            exact ⟨rfl, K9.out.below⟩

set_option maxRecDepth 100000 in
theorem lifted (os : Os) (started : os.Started) (H : Type) (enc : TypeId × Value → H) :
    ReturnsInHanded {} Tryd.checked os 4 .any (fun w args => (Rows.fnLossySpec.pre enc Tryd.prog Tryd.f4 Rows.fnLossyRow.domain false w args ∧ laidMetH Tryd.prog Rows.fnLossyRow.laid w) ∧ sizedMet enc Tryd.prog Tryd.f4 (OpenSpec.ofChange Rows.fnLossySpec) false w args)
      (Rows.fnLossySpec.post enc Tryd.prog Tryd.f4 false true false false) := by
  refine returnsInHanded_of_change_and (C := Tryd.checked) (X := fun w _ => laidMetH Tryd.prog Rows.fnLossyRow.laid w) (fun _ _ _ hh h => h.of_heap hh) own started (by kernel_rfl) Tryd.func4
    (ChangeSpec.witness_shaped (enc := enc) (C := Tryd.checked) (os := os) (X := fun w _ => laidMetH Tryd.prog Rows.fnLossyRow.laid w) false (World.laidAll Tryd.prog os Rows.fnLossyRow.laid) #[.slice none 0 0] 8 (World.laidAll_os _ _ _)
      (World.shaped_of_ZipB (by kernel_rfl) (by kernel_rfl)) (by kernel_rfl) (by kernel_rfl) (by kernel_rfl)
      (by rw [MakeChecks.laidMetH_plain _ _ _ (by kernel_rfl)]; exact laidMet_laidAll _ (by kernel_rfl) (by kernel_rfl))) ?_
  intro W base args ds gs before hval0 hW _ _ hL _
  have hval : ∀ (j : Nat) t v, Tryd.f4.params[j]? = some t → args[j]? = some v → Value.okWide Tryd.prog W .any base t v := hval0
  have hW' := hW
  obtain ⟨p, q, hA0, hV, rfl, hfz, hnd⟩ := hW
  have hA : DataW.TrodAll enc Tryd.prog W 0 (fun _ => true) true Tryd.f4.params.toList args.toList ds p := hA0
  rw [Tryd.params4] at hA hval
  obtain ⟨v0, vs0, d0, ds0, p0, q0, hargs, rfl, rfl, h0, r0⟩ := trodAll_cons hA
  obtain ⟨rfl, rfl, rfl⟩ := trodAll_nil r0
  obtain rfl : args = #[v0] := by cases args; simp_all
  have hV1 : DataW.TrodVars enc Tryd.prog W (fun _ => true) Rows.fnLossySpec.vars gs q := hV
  obtain ⟨g1, g2, g3, g4, rfl⟩ : ∃ g1 g2 g3 g4, gs = [g1, g2, g3, g4] := by
    match gs, (vars_length hV1 : gs.length = 4) with
    | [g1, g2, g3, g4], _ => exact ⟨g1, g2, g3, g4, rfl⟩
  obtain ⟨a0, len0, cap0, rfl⟩ := okWide_slice Tryd.underlying22 (hval 0 22 v0 rfl rfl)
  have k0 := h0
  have lt0 : ∀ x ∈ p0, x.block < W.heap.size := by obtain ⟨m, hm⟩ := k0; exact DataW.trod_lt m _ _ _ hm
  obtain ⟨z0, w0⟩ : ∃ zs, IsRow .u8 W a0 len0 cap0 zs := by
    obtain ⟨fuel, hf⟩ := h0
    rcases open_ints Tryd.underlying22 Tryd.underlying5 (by kernel_rfl) hf with ⟨hcs, _⟩ | ⟨x, l, c, zs, hcs, _, hl, hm, hz, _, hcell, hwz⟩
    · simp [Value.cells] at hcs
      obtain ⟨rfl, rfl, rfl⟩ := hcs
      exact ⟨[], .inl ⟨rfl, rfl, rfl, rfl⟩⟩
    · simp [Value.cells] at hcs
      obtain ⟨rfl, rfl, rfl⟩ := hcs
      exact ⟨zs, .inr ⟨_, rfl, hl, hm, by simpa using hz, hcell, hwz⟩⟩
  clear hA0 hval0
  refine (walk a0 len0 cap0 z0 W w0 ⟨all_of hL⟩).mono fun e W' ⟨he, hg⟩ => ?_
  subst he
  exact ⟨_, rfl, _, _, _, [], _, q, hW', trodAll_mk1 (shut_bool Tryd.underlying4 _), (trodAll_cons_mk (Below.trod laidOut (by kernel_rfl) (of_decide_eq_true (by kernel_rfl)) k0 hg lt0) trodAll_mk0), Below.trodVars laidOut hg (by kernel_rfl) hV1, hg.frame _, fun h => by cases h⟩

theorem over : Rows.fnLossyRow.holds Tryd.pinned (OpenSpec.ofChange Rows.fnLossySpec) :=
  OpenClaim.holds_of_wide 4 Tryd.f4 rfl rfl rfl rfl rfl rfl rfl ⟨rfl, rfl, rfl, rfl, rfl⟩ rfl rfl rfl rfl rfl (by kernel_rfl) Tryd.func4 (by kernel_rfl)
    (of_decide_eq_true (by kernel_rfl)) (by unfold Func.isWrapper; first | (rw [if_pos (by decide +kernel)]; kernel_rfl) | (rw [if_neg (by decide +kernel)]; exact ⟨rfl, rfl⟩))
    (fun os started H enc _ => lifted os started H enc)

theorem plain (f : FuncId) (fn : Func) (hf : Tryd.pinned.checked.prog.funcNamed Rows.fnLossyRow.func = some f) (hfn : Tryd.pinned.checked.prog.funcs[f]? = some fn) :
    true = Tryd.pinned.checked.prog.looks [] ∧ ∀ (j : Nat) t, fn.params[j]? = some t → Tryd.pinned.checked.prog.wantsStandIn t = false := by
  obtain rfl : f = 4 := Option.some.inj ((show Tryd.prog.funcNamed Rows.fnLossyRow.func = some 4 by kernel_rfl).symm.trans hf) |>.symm
  obtain rfl : fn = Tryd.f4 := (Option.some.inj (Tryd.func4.symm.trans hfn)).symm
  refine ⟨by kernel_rfl, fun j t ht => ?_⟩
  rw [Tryd.params4] at ht
  have hm : t ∈ [22] := by simpa using Array.mem_of_getElem? ht
  have hall : ([22].all fun u => !Tryd.prog.wantsStandIn u) = true := by kernel_rfl
  exact (show Tryd.prog.wantsStandIn t = false by simpa using List.all_eq_true.1 hall t hm)

end Go.Proofs.YtcddjfdmodpnjaaDoor.fnLossy

namespace Go.Proofs.YtcddjfdmodpnjaaDoor
theorem fnLossyCard_holds : Rows.FnLossyCardSaid :=
  Claim7.holds_tied_plain_at .later [] _ _ _ _ fnLossy.over (fun _ h => by cases h) (by kernel_rfl) (fun _ h => by cases h) fnLossy_row_tie rfl ⟨rfl, rfl⟩ (by kernel_rfl) rfl fnLossy.plain (by kernel_rfl)
#print axioms fnLossyCard_holds
end Go.Proofs.YtcddjfdmodpnjaaDoor
