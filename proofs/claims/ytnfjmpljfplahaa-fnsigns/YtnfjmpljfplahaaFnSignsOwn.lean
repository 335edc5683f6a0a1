/- Proved: for every slice of bytes, laws.FnSigns returns true; no condition. -/
import Derived.Test.YtnfjmpljfplahaaRows
import Derived.WalkKit
import Derived.ProofKit
import Derived.OpenShut
import Derived.ShutString
import Derived.ChangeOld
import Derived.Below
import Derived.Test.YtnfjmpljfplahaaSignsLaw
namespace Go.Proofs.Ytnfjmpljfplahaa.fnSigns
open Go.ChangeShapes Go.WideShapes Go.ChangeAt Go.RowKit
open Go.ChangeMaps (open_string shut_string)
set_option linter.unusedVariables false

theorem own : ownKnob Try.prog.godebug = none := by kernel_rfl
theorem laidOut : laidOutB Try.prog = true := by kernel_rfl

def IsRow (k : IntKind) (w : World) (a : Option Addr) (len cap : Nat) (zs : List Int) : Prop :=
  (a = none ∧ len = 0 ∧ cap = 0 ∧ zs = []) ∨
  ∃ x, a = some x ∧ len ≤ cap ∧ cap ≤ maxLen ∧ zs.length = cap ∧ (∀ i, i < zs.length → w.cell? (x.add i) = some (.int k (zs.getD i 0))) ∧ ∀ n ∈ zs, (Lit.int k n).wf = true

set_option maxHeartbeats 8000000 in
theorem walk (a0 : Option Addr) (len0 cap0 : Nat) (z0 : List Int) (w : World) (w0 : IsRow .u8 w a0 len0 cap0 z0) :
    Calls Try.prog 3 #[.slice a0 len0 cap0] w fun e w' => e = .returned (.bool true) ∧ Below w.heap.size w w' := by
  obtain ⟨bs, hr⟩ := reads_of_row w0
  have Hr : Hd (Reads w a0 len0 bs) := ⟨hr⟩
  clear hr w0
  by_cases hb : (1048576 : Int) < (len0 : Int)
  · have hbd : decide ((1048576 : Int) < (len0 : Int)) = true := decide_eq_true hb
    go_enter Try.func3, Try.ntmps3
    go_wp2_with (go_at_call 9; refine (big_any _ _ _ _).mono ?_; rintro e w' ⟨rfl, rfl⟩)
    go_ret
    exact ⟨rfl, Below.refl _ _⟩
  · have hbd : decide ((1048576 : Int) < (len0 : Int)) = false := decide_eq_false hb
    have hl : len0 ≤ 1073741824 := by omega
    go_enter Try.func3, Try.ntmps3
    go_wp2_with fail
    refine (big_any _ _ _ _).mono ?_
    rintro e w' ⟨rfl, hw'⟩
    replace hw' := hw'.symm
    subst hw'
    go_wp2_with fail
    refine (drawPutSign_any a0 len0 cap0 bs _ hl Hr.out).mono ?_
    rintro e w1 ⟨q, n, c, ds, z, rfl, hds, hn, hq, hO, hB1⟩
    have B1 : Hd (Below w.heap.size w w1) := ⟨hB1⟩
    have L1 : Hd (Lies w1 q n ds) := ⟨hO.lies hds⟩
    have D1 : Hd (ds.length = n) := ⟨hds⟩
    clear hO hB1 hds hq
    go_wp2_with fail
    refine (implPutSign_some q 0 n c ds z _ D1.out L1.out.cell L1.out.lt (by omega)).mono ?_
    rintro e w2 ⟨g2, c2, rfl, hg2, hO2, hB2⟩
    have B2 : Hd (Below w.heap.size w w2) := ⟨Below.next B1.out hB2⟩
    obtain ⟨m2, hm2⟩ : ∃ m2, (ds ++ signB z).length = m2 := ⟨_, rfl⟩
    have P2 : Hd (Lies w2 g2 m2 (ds ++ signB z)) := ⟨hO2.lies hm2⟩
    have hmc : m2 ≤ c2 := by rw [← hm2]; exact hO2.le
    have hm9 : m2 ≤ 8 := by have := signB_len z; have := D1.out; rw [← hm2, List.length_append]; omega
    have L2 : Hd (Lies w2 q n ds) := ⟨L1.out.below hB2⟩
    rw [hm2]
    clear hO2 hB2 B1 L1 hg2
    have M2 : Hd ((ds ++ signB z).length = m2) := ⟨hm2⟩
    clear hm2
    go_wp2_with fail
    refine (drawGetSign_any a0 len0 cap0 bs _ hl (Hr.out.below rfl B2.out)).mono ?_
    rintro e w3 ⟨q3, n3, c3, es, i, rfl, h1, h2, h3, _, h5, h6, hB3⟩
    have E3 : Hd (Lies w3 q3 n3 es) := ⟨⟨h1, h5, h6⟩⟩
    have B3 : Hd (Below w.heap.size w w3) := ⟨Below.next B2.out hB3⟩
    have P3 : Hd (Lies w3 g2 m2 (ds ++ signB z)) := ⟨P2.out.below hB3⟩
    have L3 : Hd (Lies w3 q n ds) := ⟨L2.out.below hB3⟩
    clear h1 h5 h6 hB3 B2 P2 L2
    go_wp2_with fail
    refine (implGetSign_any q3 0 n3 c3 es i _ E3.out.size h3 E3.out.cell (by omega)).mono ?_
    rintro e w4 ⟨⟨y, en, is⟩, rfl, hG4, hB4⟩
    have G4 : Hd (GotAt es i (y, en, is)) := ⟨hG4⟩
    have E4 : Hd (Lies w4 q3 n3 es) := ⟨E3.out.below hB4⟩
    have B4 : Hd (Below w.heap.size w w4) := ⟨Below.next B3.out hB4⟩
    have P4 : Hd (Lies w4 g2 m2 (ds ++ signB z)) := ⟨P3.out.below hB4⟩
    have L4 : Hd (Lies w4 q n ds) := ⟨L3.out.below hB4⟩
    clear hG4 hB4 E3 B3 P3 L3
    go_wp2_with fail
    refine (specGetSign_any q3 0 n3 c3 es i _ E4.out.size h3 E4.out.cell (by omega)).mono ?_
    rintro e w5 ⟨⟨y', en', may⟩, rfl, hG5, hB5⟩
    have hu := gotAt_unique hG5 G4.out
    simp only [Prod.mk.injEq] at hu
    obtain ⟨hu1, hu2, hu3⟩ := hu
    subst hu1 hu2 hu3
    have E5 : Hd (Lies w5 q3 n3 es) := ⟨E4.out.below hB5⟩
    have B5 : Hd (Below w.heap.size w w5) := ⟨Below.next B4.out hB5⟩
    have P5 : Hd (Lies w5 g2 m2 (ds ++ signB z)) := ⟨P4.out.below hB5⟩
    have L5 : Hd (Lies w5 q n ds) := ⟨L4.out.below hB5⟩
    clear hG5 hB5 E4 B4 P4 L4
    go_wp2_with fail
    refine (drawSignOk_any a0 len0 cap0 bs _ hl (Hr.out.below rfl B5.out)).mono ?_
    rintro e w6 ⟨a, rfl, hB6⟩
    have E6 : Hd (Lies w6 q3 n3 es) := ⟨E5.out.below hB6⟩
    have B6 : Hd (Below w.heap.size w w6) := ⟨Below.next B5.out hB6⟩
    have P6 : Hd (Lies w6 g2 m2 (ds ++ signB z)) := ⟨P5.out.below hB6⟩
    have L6 : Hd (Lies w6 q n ds) := ⟨L5.out.below hB6⟩
    clear hB6 E5 B5 P5 L5
    obtain ⟨x, hx⟩ : ∃ x, signOkB a = x := ⟨_, rfl⟩
    have X : Hd (signOkB a = x) := ⟨hx⟩
    clear hx
    have fin : Hd (∀ W : World, Below w6.heap.size w6 W → Lies W g2 m2 (ds ++ signB z) ∧ Lies W q n ds ∧ Below w.heap.size w W) := ⟨fun W h => ⟨P6.out.below h, L6.out.below h, Below.next B6.out h⟩⟩
    clear P6 L6 B6
    cases may with
    | false =>
      go_wp2_with fail
      go_quiet (first | (go_at_call 16; exact Calls.quiet_of_same (implSignOk_is X _)) | (go_at_call 17; exact Calls.quiet_of_same (specSignOk_is X _)))
      obtain ⟨hP, hL, hB⟩ := fin.out (w6.drewN nq) (below_drewN' _ _ _)
      have PW : Hd (Lies (w6.drewN nq) g2 m2 (ds ++ signB z)) := ⟨hP⟩
      have LW : Hd (Lies (w6.drewN nq) q n ds) := ⟨hL⟩
      have BW : Hd (Below w.heap.size w (w6.drewN nq)) := ⟨hB⟩
      clear hP hL hB fin E6 X
      generalize w6.drewN nq = W7 at *
      by_cases hs : isSign z
      · have Hs : Hd (isSign z) := ⟨hs⟩
        obtain ⟨k, hk⟩ : ∃ k, m2 = k + 1 := ⟨m2 - 1, by have := signB_pos hs; have := M2.out; rw [List.length_append] at this; omega⟩
        subst hk
        have A1 : Hd (GotAt (ds ++ signB z) (n : Int) (z, ((k + 1 : Nat) : Int), true)) := ⟨by
          have h1 := put_got ds hs
          have h2 := M2.out
          rw [List.length_append] at h2
          rw [D1.out] at h1 h2
          rw [show ((k + 1 : Nat) : Int) = (n : Int) + ((signB z).length : Int) from by omega]; exact h1⟩
        have A2 : Hd (GotAt ((ds ++ signB z).take k) (n : Int) (0, 0, false)) := ⟨by have h1 := cut_got ds hs M2.out; rw [D1.out] at h1; exact h1⟩
        clear hs
        go_wp2_with fail
        refine (implSignOk_yes Hs _).mono ?_
        rintro e w8 ⟨rfl, hw8⟩
        replace hw8 := hw8.symm
        subst hw8
        go_wp2_with fail
        refine (implGetSign_any g2 0 (k + 1) c2 (ds ++ signB z) (n : Int) _ PW.out.size hmc PW.out.cell (by omega)).mono ?_
        rintro e w9 ⟨⟨r1, r2, r3⟩, rfl, hG9, hB9⟩
        have hu := gotAt_unique hG9 A1.out
        simp only [Prod.mk.injEq] at hu
        obtain ⟨hu1, hu2, hu3⟩ := hu
        subst hu1 hu2 hu3
        have P9 : Hd (Lies w9 g2 k ((ds ++ signB r1).take k)) := ⟨(PW.out.below hB9).take k (by omega)⟩
        have B9 : Hd (Below w.heap.size w w9) := ⟨Below.next BW.out hB9⟩
        clear hG9 hB9 PW BW A1 LW
        go_wp2_with fail
        refine (implGetSign_any g2 0 k c2 ((ds ++ signB r1).take k) (n : Int) _ P9.out.size (by omega) P9.out.cell (by omega)).mono ?_
        rintro e w10 ⟨⟨s1, s2, s3⟩, rfl, hG10, hB10⟩
        have hu := gotAt_unique hG10 A2.out
        simp only [Prod.mk.injEq] at hu
        obtain ⟨hu1, hu2, hu3⟩ := hu
        subst hu1 hu2 hu3
        have B10 : Hd (Below w.heap.size w w10) := ⟨Below.next B9.out hB10⟩
        clear hG10 hB10 P9 B9 A2
        go_wp2_with fail
        go_ret
        exact ⟨rfl, B10.out⟩
      · have Hs : Hd (¬ isSign z) := ⟨hs⟩
        have v1 := PW.out.whole c2
        have v2 := LW.out.whole c
        rw [signB_not hs, List.append_nil] at v1
        clear hs
        go_wp2_with fail
        refine (implSignOk_no Hs _).mono ?_
        rintro e w8 ⟨rfl, hw8⟩
        replace hw8 := hw8.symm
        subst hw8
        go_wp2_with fail
        go_ret
        exact ⟨ret_bool (by simp), BW.out⟩
    | true =>
      obtain ⟨k0, hi0, hk1, hk2, he0, hys, hyt⟩ := gotAt_told G4.out
      have Y : Hd (isSign y') := ⟨hys⟩
      obtain ⟨sz, hsz⟩ : ∃ sz, (signB y').length = sz := ⟨_, rfl⟩
      rw [hsz] at hk1 hk2 he0 hyt
      subst hi0 he0
      have hn3 : k0 + sz ≤ n3 := by have := E6.out.size; omega
      have HCV : Hd (∀ (W : World) (m c : Nat), m = sz → Below w6.heap.size w6 W → (convert 22 9 (.slice (some ⟨q3, k0, none⟩) m c)).run Try.prog W = .ok (.string ⟨(signB y').toArray⟩) W) := ⟨fun W m c hm hb => by rw [hyt]; exact (E6.out.below hb).conv k0 m sz c hm hn3⟩
      have d1 : (k0 : Int) ≤ (k0 : Int) + (sz : Int) := by omega
      have d2 : (k0 : Int) + (sz : Int) ≤ (c3 : Int) := by omega
      have d3 : ¬ c3 = k0 := by omega
      have d4 : (0 : Int) ≤ (k0 : Int) := by omega
      clear hys hyt hk1 hsz G4
      go_wp2_with fail
      go_region_held (fun w' => Hd (Below w6.heap.size w6 w') ∧ (convert 22 9 (.slice (some ⟨q3, k0, none⟩) (((k0 : Int) + (sz : Int)).toNat - k0) (c3 - k0))).run Try.prog w' = .ok (.string ⟨(signB y').toArray⟩) w') (first | assumption | exact ⟨⟨(Below.refl _ w6).drew⟩, HCV.out _ _ _ (by omega) (Below.refl _ w6).drew⟩ | exact ⟨⟨(Below.refl _ w6).drew.alloc (Nat.le_refl _) _⟩, HCV.out _ _ _ (by omega) ((Below.refl _ w6).drew.alloc (Nat.le_refl _) _)⟩ | exact ⟨hBP, HCV.out _ _ _ (by omega) hBP.out⟩) (first | (go_at_call_of 16 (Value.int IntKind.i64 a); refine (implSignOk_is X _).mono ?_; rintro e wa ⟨rfl, hwa⟩; replace hwa := hwa.symm; subst hwa) | (go_at_call_of 16 (Value.int IntKind.i64 y'); refine (implSignOk_yes Y _).mono ?_; rintro e wa ⟨rfl, hwa⟩; replace hwa := hwa.symm; subst hwa) | (go_at_call 17; refine (specSignOk_is X _).mono ?_; rintro e wa ⟨rfl, hwa⟩; replace hwa := hwa.symm; subst hwa) | (go_at_call 11; refine (implPutSign_empty w6 _ _ y' _ ?_ ?_).mono ?_; exact (Below.refl _ w6).drew.alloc (Nat.le_refl _) _; simp; rintro e wP ⟨gP, cP, rfl, hcvP, hBP⟩))
      obtain ⟨hP, hL, hB⟩ := fin.out wP hBP.out
      have PW : Hd (Lies wP g2 m2 (ds ++ signB z)) := ⟨hP⟩
      have LW : Hd (Lies wP q n ds) := ⟨hL⟩
      have BW : Hd (Below w.heap.size w wP) := ⟨hB⟩
      clear hP hL hB fin E6 X
      by_cases hs : isSign z
      · have Hs : Hd (isSign z) := ⟨hs⟩
        obtain ⟨k, hk⟩ : ∃ k, m2 = k + 1 := ⟨m2 - 1, by have := signB_pos hs; have := M2.out; rw [List.length_append] at this; omega⟩
        subst hk
        have A1 : Hd (GotAt (ds ++ signB z) (n : Int) (z, ((k + 1 : Nat) : Int), true)) := ⟨by
          have h1 := put_got ds hs
          have h2 := M2.out
          rw [List.length_append] at h2
          rw [D1.out] at h1 h2
          rw [show ((k + 1 : Nat) : Int) = (n : Int) + ((signB z).length : Int) from by omega]; exact h1⟩
        have A2 : Hd (GotAt ((ds ++ signB z).take k) (n : Int) (0, 0, false)) := ⟨by have h1 := cut_got ds hs M2.out; rw [D1.out] at h1; exact h1⟩
        clear hs
        go_wp2_with fail
        refine (implSignOk_yes Hs _).mono ?_
        rintro e w8 ⟨rfl, hw8⟩
        replace hw8 := hw8.symm
        subst hw8
        go_wp2_with fail
        refine (implGetSign_any g2 0 (k + 1) c2 (ds ++ signB z) (n : Int) _ PW.out.size hmc PW.out.cell (by omega)).mono ?_
        rintro e w9 ⟨⟨r1, r2, r3⟩, rfl, hG9, hB9⟩
        have hu := gotAt_unique hG9 A1.out
        simp only [Prod.mk.injEq] at hu
        obtain ⟨hu1, hu2, hu3⟩ := hu
        subst hu1 hu2 hu3
        have P9 : Hd (Lies w9 g2 k ((ds ++ signB r1).take k)) := ⟨(PW.out.below hB9).take k (by omega)⟩
        have B9 : Hd (Below w.heap.size w w9) := ⟨Below.next BW.out hB9⟩
        clear hG9 hB9 PW BW A1 LW
        go_wp2_with fail
        refine (implGetSign_any g2 0 k c2 ((ds ++ signB r1).take k) (n : Int) _ P9.out.size (by omega) P9.out.cell (by omega)).mono ?_
        rintro e w10 ⟨⟨s1, s2, s3⟩, rfl, hG10, hB10⟩
        have hu := gotAt_unique hG10 A2.out
        simp only [Prod.mk.injEq] at hu
        obtain ⟨hu1, hu2, hu3⟩ := hu
        subst hu1 hu2 hu3
        have B10 : Hd (Below w.heap.size w w10) := ⟨Below.next B9.out hB10⟩
        clear hG10 hB10 P9 B9 A2
        go_wp2_with fail
        go_ret
        exact ⟨rfl, B10.out⟩
      · have Hs : Hd (¬ isSign z) := ⟨hs⟩
        have v1 := PW.out.whole c2
        have v2 := LW.out.whole c
        rw [signB_not hs, List.append_nil] at v1
        clear hs
        go_wp2_with fail
        refine (implSignOk_no Hs _).mono ?_
        rintro e w8 ⟨rfl, hw8⟩
        replace hw8 := hw8.symm
        subst hw8
        go_wp2_with fail
        go_ret
        exact ⟨ret_bool (by simp), BW.out⟩

set_option maxRecDepth 100000 in
theorem lifted (os : Os) (started : os.Started) (H : Type) (enc : TypeId × Value → H) :
    ReturnsInHanded {} Try.checked os 3 .any (Rows.fnSignsSpec.pre6 enc Try.prog Try.f3 Rows.fnSignsRow.domain false) (Rows.fnSignsSpec.post enc Try.prog Try.f3 false true false false) := by
  refine returnsInHanded_of_change (C := Try.checked) own started (by kernel_rfl) Try.func3
    (ChangeSpec.witness6 (enc := enc) (C := Try.checked) false ⟨#[], #[.slice none 0 0], []⟩ 8 (by kernel_rfl) (by kernel_rfl) (by kernel_rfl) (by kernel_rfl)) ?_
  intro W base args ds gs before hval0 hW hcnd _
  have hval : ∀ (j : Nat) t v, Try.f3.params[j]? = some t → args[j]? = some v → Value.okWide Try.prog W .any base t v := hval0
  have hW' := hW
  obtain ⟨p, q, hA0, hV, rfl, hfz, hnd⟩ := hW
  have hA : DataW.TrodAll enc Try.prog W 0 (fun _ => true) true Try.f3.params.toList args.toList ds p := hA0
  rw [Try.params3] at hA hval
  obtain ⟨v0, vs0, d0, ds0, p0, q0, hargs, rfl, rfl, h0, r0⟩ := trodAll_cons hA
  obtain ⟨rfl, rfl, rfl⟩ := trodAll_nil r0
  obtain rfl : args = #[v0] := by cases args; simp_all
  obtain ⟨rfl, rfl⟩ := trodVars_none hV
  obtain ⟨a0, len0, cap0, rfl⟩ := okWide_slice Try.underlying22 (hval 0 22 v0 rfl rfl)
  have k0 := h0
  have lt0 : ∀ x ∈ p0, x.block < W.heap.size := by obtain ⟨m, hm⟩ := k0; exact DataW.trod_lt m _ _ _ hm
  obtain ⟨z0, w0⟩ : ∃ zs, IsRow .u8 W a0 len0 cap0 zs := by
    obtain ⟨fuel, hf⟩ := h0
    rcases open_ints Try.underlying22 Try.underlying5 (by kernel_rfl) hf with ⟨hcs, _⟩ | ⟨x, l, c, zs, hcs, _, hl, hm, hz, _, hcell, hwz⟩
    · simp [Value.cells] at hcs
      obtain ⟨rfl, rfl, rfl⟩ := hcs
      exact ⟨[], .inl ⟨rfl, rfl, rfl, rfl⟩⟩
    · simp [Value.cells] at hcs
      obtain ⟨rfl, rfl, rfl⟩ := hcs
      exact ⟨zs, .inr ⟨_, rfl, hl, hm, by simpa using hz, hcell, hwz⟩⟩
  clear hA0 hval0
  refine (walk a0 len0 cap0 z0 W w0).mono fun e W' ⟨he, bel⟩ => ?_
  subst he
  exact ⟨_, rfl, _, _, _, [], _, [], hW', trodAll_mk1 (shut_bool Try.underlying4 _), (trodAll_cons_mk (Below.trod laidOut (by kernel_rfl) (of_decide_eq_true (by kernel_rfl)) k0 bel lt0) trodAll_mk0), rfl, bel.frame _, fun h => by cases h⟩

theorem over : Rows.fnSignsRow.holds Try.pinned (OpenSpec.ofChange Rows.fnSignsSpec) :=
  OpenClaim.holds_of_wide 3 Try.f3 rfl rfl rfl rfl rfl rfl rfl ⟨rfl, rfl, rfl, rfl, rfl⟩ rfl rfl rfl rfl rfl (by kernel_rfl) Try.func3 (by kernel_rfl)
    (of_decide_eq_true (by kernel_rfl)) (by unfold Func.isWrapper; first | (rw [if_pos (by decide +kernel)]; kernel_rfl) | (rw [if_neg (by decide +kernel)]; exact ⟨rfl, rfl⟩))
    (fun os started H enc _ => lifted os started H enc)

end Go.Proofs.Ytnfjmpljfplahaa.fnSigns

namespace Go.Proofs.Ytnfjmpljfplahaa
theorem fnSigns_holds : Rows.FnSignsSaid := fnSigns.over
#print axioms fnSigns_holds
end Go.Proofs.Ytnfjmpljfplahaa
