/- FnExactHeadOf holds at every generation and number: the program answers what the document's reading does, and as new memory. -/
import Derived.Test.YtlididoalekeoaaRows
import Derived.WalkKit
import Derived.ProofKit
import Derived.OpenShut
import Derived.ShutString
import Derived.ChangeOld
import Derived.Below
import Derived.OpenVars
import Derived.Stop.Joined
import Derived.Lib.SmallJoins
import Derived.Deep.RegionHeld3
import Derived.Deep.RegionHeldLaw
import Derived.Test.YtlididoalekeoaaHeadG
import Derived.Test.YtlididoalekeoaaExact
namespace Go.Proofs.Ytlididoalekeoaa.fnExactHeadOf
open Go.ChangeShapes Go.WideShapes Go.ChangeAt Go.RowKit
set_option linter.unusedVariables false

theorem own : ownKnob Try.prog.godebug = none := by kernel_rfl
theorem laidOut : laidOutB Try.prog = true := by kernel_rfl

set_option maxHeartbeats 2000000 in
theorem walk (a0 : Int) (w0 : (Lit.int .i64 a0).wf = true) (a1 : Int) (w1 : (Lit.int .i64 a1).wf = true) (w : World)  :
    Calls Try.prog 3 #[.int .i64 a0, .int .i64 a1] w fun e w' => e = .returned (.bool true) ∧ Below w.heap.size w w' := by
  go_enter Try.func3, Try.ntmps3
  go_wp2_with fail
  obtain ⟨U0, hU0⟩ : ∃ U, w.heap.size = U := ⟨_, rfl⟩
  have B0 : Hd (Below w.heap.size w w) := ⟨Below.refl _ w⟩
  have S0 : Hd (U0 ≤ w.heap.size) := ⟨by omega⟩
  have IV : Hd (w.heap.size = U0) := ⟨hU0⟩
  clear hU0
  have hwt := hd_wt a0 a1
  obtain ⟨r, hr⟩ : ∃ r, hdB a0 a1 = r := ⟨_, rfl⟩
  rw [hr] at hwt
  have HR : Hd (hdB a0 a1 = r ∧ wtB r ≤ 1073741824 ∧ 1 + ctB r ≤ 1073741824) := ⟨hr, hwt⟩
  clear hr hwt
  obtain ⟨LW, hLW⟩ : ∃ L, w.heap.size = L := ⟨_, rfl⟩
  have hLS : U0 ≤ LW := by rw [← hLW]; exact S0.out
  refine ((specHeadOf_rd a0 a1 _ )).mono ?_
  rintro e w1 ⟨⟨yW, nW, cW, rfl, hA⟩, hB⟩
  rw [HR.out.1] at hA
  have hLv : LW ≤ w1.heap.size := by rw [← hLW]; exact hB.size
  obtain ⟨EW, hU⟩ : ∃ U, w1.heap.size = U := ⟨_, rfl⟩
  have hZ : Lo (EW) RdB w1 [.slice yW nW cW] (r) := lo_of hA (Nat.le_of_eq hU)
  clear hA
  rw [hU] at hLv
  clear hLW
  have B1 : Hd (Below w.heap.size w w1) := ⟨Below.next B0.out hB⟩
  have S1 : Hd (U0 ≤ w1.heap.size) := ⟨Nat.le_trans S0.out hB.size⟩
  clear B0 S0
  clear hB
  have IV2 : Hd (w.heap.size = U0 ∧ U0 ≤ LW ∧ LW ≤ EW) := ⟨by have := IV.out; omega⟩
  clear IV hLS hLv
  have IV := IV2
  clear IV2
  have S2 : Hd (EW ≤ w1.heap.size) := ⟨by omega⟩
  clear S1 hU
  have W_0 : Hd (Lo (EW) RdB w1 [.slice yW nW cW] (r)) := ⟨hZ⟩
  clear hZ
  go_wp2_with fail
  obtain ⟨LG, hLG⟩ : ∃ L, w1.heap.size = L := ⟨_, rfl⟩
  have hLS : EW ≤ LG := by rw [← hLG]; exact S2.out
  refine (implHeadOf_rd a0 a1 _ ).mono ?_
  rintro e w2 ⟨⟨yG, nG, cG, rfl, hA⟩, hB⟩
  rw [HR.out.1] at hA
  have hLv : LG ≤ w2.heap.size := by rw [← hLG]; exact hB.size
  rw [hLG] at hA
  obtain ⟨FG, hZ⟩ := so_new owB_ok hA
  clear hA
  obtain ⟨EG, hU⟩ : ∃ U, w2.heap.size = U := ⟨_, rfl⟩
  rw [hU] at hZ
  rw [hU] at hLv
  clear hLG
  have W_1 : Hd (Lo (EW) RdB w2 [.slice yW nW cW] (r)) := ⟨W_0.out.step (hB.mono (by have := S2.out; have := IV.out; omega))⟩
  have B3 : Hd (Below w.heap.size w w2) := ⟨Below.next B1.out hB⟩
  have S3 : Hd (EW ≤ w2.heap.size) := ⟨Nat.le_trans S2.out hB.size⟩
  clear W_0 B1 S2
  clear hB
  have IV2 : Hd (w.heap.size = U0 ∧ U0 ≤ LW ∧ LW ≤ EW ∧ EW ≤ LG ∧ LG ≤ EG) := ⟨by have := IV.out; omega⟩
  clear IV hLS hLv
  have IV := IV2
  clear IV2
  have S4 : Hd (EG ≤ w2.heap.size) := ⟨by omega⟩
  clear S3 hU
  have G_0 : Hd (SO OwB LG (EG) [.slice yG nG cG] FG (r) w2) := ⟨hZ⟩
  clear hZ
  go_wp2_with fail
  refine (eqByteS_rd yG nG cG yW nW cW (r) _ (owB_ok.rd G_0.out.own) (W_1.out.rd rdB_ok) (HR.out.2.1)).mono ?_
  rintro e w3 ⟨rfl, hB⟩
  have W_2 : Hd (Lo (EW) RdB w3 [.slice yW nW cW] (r)) := ⟨W_1.out.step (hB.mono (by have := S4.out; have := IV.out; omega))⟩
  have G_1 : Hd (SO OwB LG (EG) [.slice yG nG cG] FG (r) w3) := ⟨G_0.out.below owB_ok hB⟩
  have B5 : Hd (Below w.heap.size w w3) := ⟨Below.next B3.out hB⟩
  have S5 : Hd (EG ≤ w3.heap.size) := ⟨Nat.le_trans S4.out hB.size⟩
  clear W_1 G_0 B3 S4
  clear hB
  go_wp2_with fail
  refine (markByteS_ow yG nG cG (1) (r) FG _ G_1.out.own (by exact HR.out.2.2)).mono ?_
  rintro e w4 ⟨rfl, hO, hC⟩
  have hin : ∀ x, FG x → LG ≤ x ∧ x < EG := G_1.out.in_
  have W_3 : Hd (Lo (EW) RdB w4 [.slice yW nW cW] (r)) := ⟨W_2.out.step (hC.below (fun x hx => by have := hin x hx; have := IV.out; omega) (by have := S5.out; have := IV.out; omega))⟩
  have G_2 : Hd (SO OwB LG (EG) [.slice yG nG cG] FG (mkB (1) (r)) w4) := ⟨G_1.out.marked hO⟩
  have B6 : Hd (Below w.heap.size w w4) := ⟨B5.out.trans (hC.below (fun x hx => by have := hin x hx; have := IV.out; omega) B5.out.size)⟩
  have S6 : Hd (EG ≤ w4.heap.size) := ⟨Nat.le_trans S5.out hC.size⟩
  clear W_2 G_1 B5 S5
  clear hin hO hC
  go_wp2_with fail
  refine (heldByteS_rd yG nG cG (1) (r) _ (owB_ok.rd G_2.out.own) (by exact HR.out.2.2)).mono ?_
  rintro e w5 ⟨rfl, hB⟩
  have W_4 : Hd (Lo (EW) RdB w5 [.slice yW nW cW] (r)) := ⟨W_3.out.step (hB.mono (by have := S6.out; have := IV.out; omega))⟩
  have G_3 : Hd (SO OwB LG (EG) [.slice yG nG cG] FG (mkB (1) (r)) w5) := ⟨G_2.out.below owB_ok hB⟩
  have B7 : Hd (Below w.heap.size w w5) := ⟨Below.next B6.out hB⟩
  have S7 : Hd (EG ≤ w5.heap.size) := ⟨Nat.le_trans S6.out hB.size⟩
  clear W_3 G_2 B6 S6
  clear hB
  go_wp2_with fail
  have hq : ¬ (((1 + ctB (r) : Nat) : Int) < 0) := by omega
  have hqm : (((1 + ctB (r) : Nat) : Int) != ((1 + ctB (r) : Nat) : Int)) = false := by simp
  go_wp2_with fail
  obtain ⟨LH, hLH⟩ : ∃ L, w5.heap.size = L := ⟨_, rfl⟩
  have hLS : EG ≤ LH := by rw [← hLH]; exact S7.out
  refine (implHeadOf_rd a0 a1 _ ).mono ?_
  rintro e w6 ⟨⟨yH, nH, cH, rfl, hA⟩, hB⟩
  rw [HR.out.1] at hA
  have hLv : LH ≤ w6.heap.size := by rw [← hLH]; exact hB.size
  rw [hLH] at hA
  obtain ⟨FH, hZ⟩ := so_new owB_ok hA
  clear hA
  obtain ⟨EH, hU⟩ : ∃ U, w6.heap.size = U := ⟨_, rfl⟩
  rw [hU] at hZ
  rw [hU] at hLv
  clear hLH
  have W_5 : Hd (Lo (EW) RdB w6 [.slice yW nW cW] (r)) := ⟨W_4.out.step (hB.mono (by have := S7.out; have := IV.out; omega))⟩
  have G_4 : Hd (SO OwB LG (EG) [.slice yG nG cG] FG (mkB (1) (r)) w6) := ⟨G_3.out.below owB_ok hB⟩
  have B8 : Hd (Below w.heap.size w w6) := ⟨Below.next B7.out hB⟩
  have S8 : Hd (EG ≤ w6.heap.size) := ⟨Nat.le_trans S7.out hB.size⟩
  clear W_4 G_3 B7 S7
  clear hB
  have IV2 : Hd (w.heap.size = U0 ∧ U0 ≤ LW ∧ LW ≤ EW ∧ EW ≤ LG ∧ LG ≤ EG ∧ EG ≤ LH ∧ LH ≤ EH) := ⟨by have := IV.out; omega⟩
  clear IV hLS hLv
  have IV := IV2
  clear IV2
  have S9 : Hd (EH ≤ w6.heap.size) := ⟨by omega⟩
  clear S8 hU
  have H_0 : Hd (SO OwB LH (EH) [.slice yH nH cH] FH (r) w6) := ⟨hZ⟩
  clear hZ
  go_wp2_with fail
  refine (eqByteS_rd yH nH cH yW nW cW (r) _ (owB_ok.rd H_0.out.own) (W_5.out.rd rdB_ok) (HR.out.2.1)).mono ?_
  rintro e w7 ⟨rfl, hB⟩
  have W_6 : Hd (Lo (EW) RdB w7 [.slice yW nW cW] (r)) := ⟨W_5.out.step (hB.mono (by have := S9.out; have := IV.out; omega))⟩
  have G_5 : Hd (SO OwB LG (EG) [.slice yG nG cG] FG (mkB (1) (r)) w7) := ⟨G_4.out.below owB_ok hB⟩
  have H_1 : Hd (SO OwB LH (EH) [.slice yH nH cH] FH (r) w7) := ⟨H_0.out.below owB_ok hB⟩
  have B10 : Hd (Below w.heap.size w w7) := ⟨Below.next B8.out hB⟩
  have S10 : Hd (EH ≤ w7.heap.size) := ⟨Nat.le_trans S9.out hB.size⟩
  clear W_5 G_4 H_0 B8 S9
  clear hB
  go_wp2_with fail
  clear H_1
  clear W_6
  refine (heldByteS_rd yG nG cG (1) (r) _ (owB_ok.rd G_5.out.own) (by exact HR.out.2.2)).mono ?_
  rintro e w8 ⟨rfl, hB⟩
  have G_6 : Hd (SO OwB LG (EG) [.slice yG nG cG] FG (mkB (1) (r)) w8) := ⟨G_5.out.below owB_ok hB⟩
  have B11 : Hd (Below w.heap.size w w8) := ⟨Below.next B10.out hB⟩
  have S11 : Hd (EH ≤ w8.heap.size) := ⟨Nat.le_trans S10.out hB.size⟩
  clear G_5 B10 S10
  clear hB
  go_wp2_with fail
  go_ret
  exact ⟨rfl, B11.out⟩

set_option maxRecDepth 100000 in
theorem lifted (os : Os) (started : os.Started) (H : Type) (enc : TypeId × Value → H) :
    ReturnsInHanded {} Try.checked os 3 .any (Rows.fnExactHeadOfSpec.pre6 enc Try.prog Try.f3 Rows.fnExactHeadOfRow.domain false) (Rows.fnExactHeadOfSpec.post enc Try.prog Try.f3 false true false false) := by
  refine returnsInHanded_of_change (C := Try.checked) own started (by kernel_rfl) Try.func3
    (ChangeSpec.witness6 (enc := enc) (C := Try.checked) false ⟨#[], #[.int .i64 0, .int .i64 0], []⟩ 8 (by kernel_rfl) (by kernel_rfl) (by kernel_rfl) (by kernel_rfl)) ?_
  intro W base args ds gs before hval0 hW hcnd _
  have hval : ∀ (j : Nat) t v, Try.f3.params[j]? = some t → args[j]? = some v → Value.okWide Try.prog W .any base t v := hval0
  have hW' := hW
  obtain ⟨p, q, hA0, hV, rfl, hfz, hnd⟩ := hW
  have hA : DataW.TrodAll enc Try.prog W 0 (fun _ => true) true Try.f3.params.toList args.toList ds p := hA0
  rw [Try.params3] at hA hval
  obtain ⟨v0, vs0, d0, ds0, p0, q0, hargs, rfl, rfl, h0, r0⟩ := trodAll_cons hA
  obtain ⟨v1, vs1, d1, ds1, p1, q1, rfl, rfl, rfl, h1, r1⟩ := trodAll_cons r0
  obtain ⟨rfl, rfl, rfl⟩ := trodAll_nil r1
  obtain rfl : args = #[v0, v1] := by cases args; simp_all
  obtain ⟨rfl, rfl⟩ := trodVars_none hV
  obtain ⟨a0, rfl, rfl, rfl, w0⟩ := open_int Try.underlying3 (hval 0 3 v0 rfl rfl) h0
  obtain ⟨a1, rfl, rfl, rfl, w1⟩ := open_int Try.underlying3 (hval 1 3 v1 rfl rfl) h1
  clear hA0 hval0
  refine (walk a0 w0 a1 w1 W ).mono fun e W' ⟨he, hg⟩ => ?_
  subst he
  exact ⟨_, rfl, _, _, _, [], _, [], hW', trodAll_mk1 (shut_bool Try.underlying4 _), (trodAll_cons_mk (shut_int Try.underlying3 w0) (trodAll_cons_mk (shut_int Try.underlying3 w1) trodAll_mk0)), rfl, hg.frame _, fun h => by cases h⟩

theorem over : Rows.fnExactHeadOfRow.holds Try.pinned (OpenSpec.ofChange Rows.fnExactHeadOfSpec) :=
  OpenClaim.holds_of_wide 3 Try.f3 rfl rfl rfl rfl rfl rfl rfl ⟨rfl, rfl, rfl, rfl, rfl⟩ rfl rfl rfl rfl rfl (by kernel_rfl) Try.func3 (by kernel_rfl)
    (of_decide_eq_true (by kernel_rfl)) (by unfold Func.isWrapper; first | (rw [if_pos (by decide +kernel)]; kernel_rfl) | (rw [if_neg (by decide +kernel)]; exact ⟨rfl, rfl⟩))
    (fun os started H enc _ => lifted os started H enc)

end Go.Proofs.Ytlididoalekeoaa.fnExactHeadOf

namespace Go.Proofs.Ytlididoalekeoaa
theorem FnExactHeadOf_holds : Rows.FnExactHeadOfSaid := fnExactHeadOf.over
#print axioms FnExactHeadOf_holds
end Go.Proofs.Ytlididoalekeoaa
