/- Proved: bytes below 128 are read and written as the same signs in every set, fit each, and Detect tells the first set of them; the condition: the program's tables start as its text lays them. -/
import Derived.Test.YtejlellhoamjgaaDoorCards
import Derived.Test.YtejlellhoamjgaaDoorTie
import Derived.WalkKit
import Derived.ProofKit
import Derived.OpenShut
import Derived.ShutString
import Derived.ChangeOld
import Derived.Below
import Derived.OpenVars
import Derived.Lay
import Derived.MakeChecks
import Derived.SevenTiedAt
import Derived.Stop.Joined
import Derived.Lib.SmallJoins
import Derived.Test.YtejlellhoamjgaaDoorBig
import Derived.Test.YtejlellhoamjgaaDoorAt
import Derived.Test.YtejlellhoamjgaaDoorLies
import Derived.Test.YtejlellhoamjgaaDoorAsciiP
import Derived.Test.YtejlellhoamjgaaDoorDetI
import Derived.Test.YtejlellhoamjgaaDoorLaidW
namespace Go.Proofs.YtejlellhoamjgaaDoor.fnAscii
open Go.ChangeShapes Go.WideShapes Go.ChangeAt Go.RowKit
open Go.ChangeMaps (open_string shut_string)
set_option linter.unusedVariables false

theorem own : ownKnob Tryd.prog.godebug = none := by kernel_rfl
theorem laidOut : laidOutB Tryd.prog = true := by kernel_rfl

def IsRow (k : IntKind) (w : World) (a : Option Addr) (len cap : Nat) (zs : List Int) : Prop :=
  (a = none ∧ len = 0 ∧ cap = 0 ∧ zs = []) ∨
  ∃ x, a = some x ∧ len ≤ cap ∧ cap ≤ maxLen ∧ zs.length = cap ∧ (∀ i, i < zs.length → w.cell? (x.add i) = some (.int k (zs.getD i 0))) ∧ ∀ n ∈ zs, (Lit.int k n).wf = true

set_option maxRecDepth 4000 in
set_option maxHeartbeats 2000000 in
theorem walk (a0 : Option Addr) (len0 cap0 : Nat) (z0 : List Int) (w : World) (w0 : IsRow .u8 w a0 len0 cap0 z0) (T : Hd (AllW w)) :
    Calls Tryd.prog 3 #[.slice a0 len0 cap0] w fun e w' => e = .returned (.bool true) ∧ Below w.heap.size w w' := by
  obtain ⟨i0, hi, hz0, hz1, hz2⟩ := info_parts info8
  obtain ⟨bs, hr⟩ := reads_of_row w0
  have Hr : Hd (Reads w a0 len0 bs) := ⟨hr⟩
  clear hr w0
  by_cases hb : (1048576 : Int) < (len0 : Int)
  · have hbd : decide ((1048576 : Int) < (len0 : Int)) = true := decide_eq_true hb
    go_enter Tryd.func3, Tryd.ntmps3
    go_wp2_with (go_at_call 6; refine (big_any _ _ _ _).mono ?_; rintro e w' ⟨rfl, rfl⟩)
    go_ret
    exact ⟨rfl, Below.refl _ _⟩
  · have hbd : decide ((1048576 : Int) < (len0 : Int)) = false := decide_eq_false hb
    have hl : len0 ≤ 1073741824 := by omega
    obtain ⟨m, hm⟩ : ∃ m, atV bs 2 = m := ⟨_, rfl⟩
    have Hm : Hd (atV bs 2 = m) := ⟨hm⟩
    have hm2 : (m : Int) < 256 := by have := atV_lt bs 2; omega
    clear hm
    go_enter Tryd.func3, Tryd.ntmps3
    go_wp2_with fail
    refine (big_any _ _ _ _).mono ?_
    rintro e w' ⟨rfl, hw'⟩
    replace hw' := hw'.symm
    subst hw'
    go_wp2_with fail
    go_loopw [3, 4] (fun v i wr => ∃ (k q c : Nat) (ds : List UInt8), k ≤ 8 ∧ i = .int .i64 k ∧ v = .slice (some ⟨q, 0, none⟩) k c ∧ w.heap.size ≤ q ∧ Hd (ds.length = k) ∧ Hd (Own wr q c ds) ∧ Hd (Low ds) ∧ Hd (Below w.heap.size w wr)) (fun _ i _ => 8 - (intOf i).toNat)
    case atStart =>
      obtain ⟨q, c, hv, hq, hO⟩ := own_row (bs := []) (World.ownsRow_made (base := w.heap.size) (e := 5) (size := 1) w #[] 0 (Nat.le_refl _) (by unfold maxLen; omega) rfl) (by simp)
      exact ⟨0, q, c, [], Nat.zero_le _, rfl, hv, hq, ⟨rfl⟩, ⟨hO⟩, ⟨low_nil⟩, ⟨below_lit w _⟩⟩
    case round =>
      obtain ⟨k, q, c, ds, hk, rfl, rfl, hq, hds, hown, hlow, hbel⟩ := hrel
      go_wp2_with fail
      refine (at_two a0 len0 cap0 bs _ hl (Hr.out.below rfl hbel.out)).mono ?_
      rintro e w' ⟨rfl, hw'⟩
      replace hw' := hw'.symm
      subst hw'
      rewrite [Hm.out]
      by_cases hlt : (k : Int) < (m : Int) % 8
      · obtain ⟨x, hx⟩ : ∃ x, atV bs (k + 3) = x := ⟨_, rfl⟩
        have Hx : Hd (atV bs (k + 3) = x) := ⟨hx⟩
        have hx2 : (x : Int) < 256 := by have := atV_lt bs (k + 3); omega
        have hx3 : (x : Int) % 128 < 128 := by omega
        clear hx
        have hsz := hbel.out.size
        go_wp2_with fail
        refine (at_plus a0 len0 cap0 bs k _ hl (by omega) (Hr.out.below rfl hbel.out)).mono ?_
        rintro e w' ⟨rfl, hw'⟩
        replace hw' := hw'.symm
        subst hw'
        rewrite [Hx.out]
        go_wp2_with (at_builtin; refine wpList_append_own _ rfl (.tmp 24) (.tmp 31) 22 rfl w.heap.size 5 i0 (.int .u8 0) 1 1 Tryd.underlying22 hi hz0 hz1 hz2 rfl (by decide) _ k (ds.map cb) rfl ?hown ⟨wr.heap.size, 0, none⟩ 1 1 [.int .u8 ((x : Int) % 128)] rfl ?hl ?hn ?h1 ?h63 ?hby ?hbase ?_)
        case hown => exact (hown.out.owns hds.out hq).alloc _
        case hl => rfl
        case hn =>
          intro j u hj
          match j, hj with
          | 0, hj => simp at hj; subst hj; simp [Addr.add]
        case h1 => intro u hu; simp at hu; subst hu; rfl
        case h63 => unfold maxLen; omega
        case hby => omega
        case hbase => simp; omega
        intro v2 w2 hown2 hgr2 hne2
        have e2 := cell_low x ds
        rw [e2] at hown2
        obtain ⟨q2, c2, hv2, hq2, hR2⟩ := own_row hown2 (by simpa using hne2)
        have hO2 : Hd (Own w2 q2 c2 (ds ++ [UInt8.ofNat (x % 128)])) := ⟨hR2⟩
        have hd2 : Hd ((ds ++ [UInt8.ofNat (x % 128)]).length = k + 1) := ⟨by simp [hds.out]⟩
        have hL2 : Hd (Low (ds ++ [UInt8.ofNat (x % 128)])) := ⟨hlow.out.snoc (by omega)⟩
        have hB2 : Hd (Below w.heap.size w w2) := ⟨hbel.out.grown (grown_of_alloc hgr2) hsz (fun j h => by simp [Value.ownBlock] at h; omega)⟩
        rw [hv2]
        clear hown2 hgr2 hne2 e2 hv2 hR2 hown hbel hlow hds
        go_wp2_with fail
        go_roundw
        case rel => exact ⟨k + 1, q2, c2, ds ++ [UInt8.ofNat (x % 128)], by omega, by go_num, rfl, hq2, hd2, hO2, hL2, hB2⟩
        case measure => simp [intOf]; omega
      · have hc : k ≤ c := by have := hown.out.le; have := hds.out; omega
        have L0 : Hd (Lies wr q k ds) := ⟨hown.out.lies hds.out⟩
        clear hown hds
        go_wp2_with fail
        go_loopw [5] (fun i w2 => ∃ j : Nat, j ≤ 6 ∧ i = .int .i64 j ∧ Hd (Lies w2 q k ds) ∧ Hd (Below w.heap.size w w2)) (fun i _ => 6 - (intOf i).toNat)
        case atStart => exact ⟨0, Nat.zero_le _, rfl, L0, hbel⟩
        case round =>
          obtain ⟨j, hj, rfl, hL, hB⟩ := hrel
          by_cases hlt2 : (j : Int) ≤ 5
          · have D : Hd (Same (j : Int) ds) := ⟨same_low ⟨by omega, by omega⟩ hlow.out⟩
            obtain ⟨S, hS⟩ : ∃ S, ds.toArray = S := ⟨_, rfl⟩
            have HS : Hd (ds.toArray = S) := ⟨hS⟩
            have HL : Hd ((⟨S⟩ : ByteArray).data.toList = ds) := ⟨by rw [← hS]⟩
            have HZ : Hd ((⟨S⟩ : ByteArray).size ≤ 1048576) := ⟨by rw [← hS, size_of, hL.out.size]; omega⟩
            clear hS
            go_wp2_with fail
            refine (implDecode_any (j : Int) q 0 k c ds _ hL.out.size hc hL.out.cell (by omega) ⟨(T.out.below hB.out).all⟩).mono ?_
            rintro e w2 ⟨rfl, hB2⟩
            rewrite [D.out.dS, D.out.dOk, HS.out]
            have L2 : Hd (Lies w2 q k ds) := ⟨hL.out.below hB2⟩
            have B2 : Hd (Below w.heap.size w w2) := ⟨Below.next hB.out hB2⟩
            have v2 := L2.out.whole c
            rw [HS.out] at v2
            clear hB2 hL hB
            go_wp2_with fail
            refine (implEncode_any (j : Int) ⟨S⟩ _ HZ.out ⟨(T.out.below B2.out).all⟩).mono ?_
            rewrite [HL.out, D.out.eS, D.out.eOk]
            rintro e w3 ⟨g3, c3, rfl, _, hO3, hB3⟩
            rewrite [L2.out.size]
            have L3 : Hd (Lies w3 q k ds) := ⟨L2.out.below hB3⟩
            have F3 : Hd (Lies w3 g3 k ds) := ⟨hO3.lies L2.out.size⟩
            have B3 : Hd (Below w.heap.size w w3) := ⟨Below.next B2.out hB3⟩
            clear hB3 hO3 L2 B2 v2
            go_wp2_with fail
            refine (implDecodeLossy_any (j : Int) q 0 k c ds _ L3.out.size hc L3.out.cell (by omega) ⟨(T.out.below B3.out).all⟩).mono ?_
            rintro e w4 ⟨rfl, hB4⟩
            rewrite [D.out.lS, D.out.lN, HS.out]
            have L4 : Hd (Lies w4 q k ds) := ⟨L3.out.below hB4⟩
            have B4 : Hd (Below w.heap.size w w4) := ⟨Below.next B3.out hB4⟩
            have v4 := L4.out.whole c
            have x4 := (F3.out.below hB4).whole c3
            rw [HS.out] at v4 x4
            clear hB4 L3 F3 B3
            go_wp2_with fail
            refine (implFits_any (j : Int) ⟨S⟩ _ HZ.out ⟨(T.out.below B4.out).all⟩).mono ?_
            rewrite [HL.out, D.out.eOk]
            rintro e w5 ⟨rfl, hB5⟩
            have L5 : Hd (Lies w5 q k ds) := ⟨L4.out.below hB5⟩
            have B5 : Hd (Below w.heap.size w w5) := ⟨Below.next B4.out hB5⟩
            clear hB5 L4 B4 v4 x4
            go_wp2_with fail
            go_roundw
            case rel => exact ⟨j + 1, by omega, by go_num, L5, B5⟩
            case measure => simp [intOf]; omega
          · go_wp2_with fail
            refine (implDetect_any q 0 k c ds _ hL.out.size hc hL.out.cell (by omega) ⟨T.out.below hB.out⟩).mono ?_
            rintro e w2 ⟨rfl, hB2⟩
            rewrite [(det_low hlow.out).1, (det_low hlow.out).2]
            have B2 : Hd (Below w.heap.size w w2) := ⟨Below.next hB.out hB2⟩
            clear hB2 hL hB
            go_wp2_with fail
            go_ret
            exact ⟨rfl, B2.out⟩

set_option maxRecDepth 100000 in
theorem lifted (os : Os) (started : os.Started) (H : Type) (enc : TypeId × Value → H) :
    ReturnsInHanded {} Tryd.checked os 3 .any (fun w args => (Rows.fnAsciiSpec.pre enc Tryd.prog Tryd.f3 Rows.fnAsciiRow.domain false w args ∧ laidMetH Tryd.prog Rows.fnAsciiRow.laid w) ∧ sizedMet enc Tryd.prog Tryd.f3 (OpenSpec.ofChange Rows.fnAsciiSpec) false w args)
      (Rows.fnAsciiSpec.post enc Tryd.prog Tryd.f3 false true false false) := by
  refine returnsInHanded_of_change_and (C := Tryd.checked) (X := fun w _ => laidMetH Tryd.prog Rows.fnAsciiRow.laid w) (fun _ _ _ hh h => h.of_heap hh) own started (by kernel_rfl) Tryd.func3
    (ChangeSpec.witness_shaped (enc := enc) (C := Tryd.checked) (os := os) (X := fun w _ => laidMetH Tryd.prog Rows.fnAsciiRow.laid w) false (World.laidAll Tryd.prog os Rows.fnAsciiRow.laid) #[.slice none 0 0] 8 (World.laidAll_os _ _ _)
      (World.shaped_of_ZipB (by kernel_rfl) (by kernel_rfl)) (by kernel_rfl) (by kernel_rfl) (by kernel_rfl)
      (by rw [MakeChecks.laidMetH_plain _ _ _ (by kernel_rfl)]; exact laidMet_laidAll _ (by kernel_rfl) (by kernel_rfl))) ?_
  intro W base args ds gs before hval0 hW _ _ hL _
  have hval : ∀ (j : Nat) t v, Tryd.f3.params[j]? = some t → args[j]? = some v → Value.okWide Tryd.prog W .any base t v := hval0
  have hW' := hW
  obtain ⟨p, q, hA0, hV, rfl, hfz, hnd⟩ := hW
  have hA : DataW.TrodAll enc Tryd.prog W 0 (fun _ => true) true Tryd.f3.params.toList args.toList ds p := hA0
  rw [Tryd.params3] at hA hval
  obtain ⟨v0, vs0, d0, ds0, p0, q0, hargs, rfl, rfl, h0, r0⟩ := trodAll_cons hA
  obtain ⟨rfl, rfl, rfl⟩ := trodAll_nil r0
  obtain rfl : args = #[v0] := by cases args; simp_all
  have hV1 : DataW.TrodVars enc Tryd.prog W (fun _ => true) Rows.fnAsciiSpec.vars gs q := hV
  obtain ⟨g1, g2, g3, g4, g5, rfl⟩ : ∃ g1 g2 g3 g4 g5, gs = [g1, g2, g3, g4, g5] := by
    match gs, (vars_length hV1 : gs.length = 5) with
    | [g1, g2, g3, g4, g5], _ => exact ⟨g1, g2, g3, g4, g5, rfl⟩
  obtain ⟨a0, len0, cap0, rfl⟩ := okWide_slice Tryd.underlying22 (hval 0 22 v0 rfl rfl)
  have k0 := h0
  have lt0 : ∀ x ∈ p0, x.block < W.heap.size := by obtain ⟨m, hm⟩ := k0; exact DataW.trod_lt m _ _ _ hm
  obtain ⟨z0, w0⟩ : ∃ zs, IsRow .u8 W a0 len0 cap0 zs := by
    obtain ⟨fuel, hf⟩ := h0
    rcases open_ints Tryd.underlying22 Tryd.underlying5 (by kernel_rfl) hf with ⟨hcs, _⟩ | ⟨x, l, c, zs, hcs, _, hl, hm, hz, _, hcell, hwz⟩
    · simp [Value.cells] at hcs
      obtain ⟨rfl, rfl, rfl⟩ := hcs
      exact ⟨[], .inl ⟨rfl, rfl, rfl, rfl⟩⟩
    · simp [Value.cells] at hcs
      obtain ⟨rfl, rfl, rfl⟩ := hcs
      exact ⟨zs, .inr ⟨_, rfl, hl, hm, by simpa using hz, hcell, hwz⟩⟩
  clear hA0 hval0
  refine (walk a0 len0 cap0 z0 W w0 ⟨allW_of hL⟩).mono fun e W' ⟨he, hg⟩ => ?_
  subst he
  exact ⟨_, rfl, _, _, _, [], _, q, hW', trodAll_mk1 (shut_bool Tryd.underlying4 _), (trodAll_cons_mk (Below.trod laidOut (by kernel_rfl) (of_decide_eq_true (by kernel_rfl)) k0 hg lt0) trodAll_mk0), Below.trodVars laidOut hg (by kernel_rfl) hV1, hg.frame _, fun h => by cases h⟩

theorem over : Rows.fnAsciiRow.holds Tryd.pinned (OpenSpec.ofChange Rows.fnAsciiSpec) :=
  OpenClaim.holds_of_wide 3 Tryd.f3 rfl rfl rfl rfl rfl rfl rfl ⟨rfl, rfl, rfl, rfl, rfl⟩ rfl rfl rfl rfl rfl (by kernel_rfl) Tryd.func3 (by kernel_rfl)
    (of_decide_eq_true (by kernel_rfl)) (by unfold Func.isWrapper; first | (rw [if_pos (by decide +kernel)]; kernel_rfl) | (rw [if_neg (by decide +kernel)]; exact ⟨rfl, rfl⟩))
    (fun os started H enc _ => lifted os started H enc)

theorem plain (f : FuncId) (fn : Func) (hf : Tryd.pinned.checked.prog.funcNamed Rows.fnAsciiRow.func = some f) (hfn : Tryd.pinned.checked.prog.funcs[f]? = some fn) :
    true = Tryd.pinned.checked.prog.looks [] ∧ ∀ (j : Nat) t, fn.params[j]? = some t → Tryd.pinned.checked.prog.wantsStandIn t = false := by
  obtain rfl : f = 3 := Option.some.inj ((show Tryd.prog.funcNamed Rows.fnAsciiRow.func = some 3 by kernel_rfl).symm.trans hf) |>.symm
  obtain rfl : fn = Tryd.f3 := (Option.some.inj (Tryd.func3.symm.trans hfn)).symm
  refine ⟨by kernel_rfl, fun j t ht => ?_⟩
  rw [Tryd.params3] at ht
  have hm : t ∈ [22] := by simpa using Array.mem_of_getElem? ht
  have hall : ([22].all fun u => !Tryd.prog.wantsStandIn u) = true := by kernel_rfl
  exact (show Tryd.prog.wantsStandIn t = false by simpa using List.all_eq_true.1 hall t hm)

end Go.Proofs.YtejlellhoamjgaaDoor.fnAscii

namespace Go.Proofs.YtejlellhoamjgaaDoor
theorem fnAsciiCard_holds : Rows.FnAsciiCardSaid :=
  Claim7.holds_tied_plain_at .later [] _ _ _ _ fnAscii.over (fun _ h => by cases h) (by kernel_rfl) (fun _ h => by cases h) fnAscii_row_tie rfl ⟨rfl, rfl⟩ (by kernel_rfl) rfl fnAscii.plain (by kernel_rfl)
#print axioms fnAsciiCard_holds
end Go.Proofs.YtejlellhoamjgaaDoor
