/- Exact: DevOk of the program is what the specification's is. -/
import Derived.Test.YtmoalbopbgfgdaaRows
import Derived.WalkKit
import Derived.ProofKit
import Derived.OpenShut
import Derived.ChangeOld
import Derived.Below
import Derived.OpenVars
import Derived.Stop.Joined
import Derived.Lib.SmallJoins
import Derived.Deep.RegionHeld3
import Derived.Deep.RegionHeldLaw
import Derived.Test.YtmoalbopbgfgdaaExact
import Derived.Test.YtmoalbopbgfgdaaTrodDev
import Derived.Test.YtmoalbopbgfgdaaDevI
import Derived.Test.YtmoalbopbgfgdaaDevSp
import Derived.Test.YtmoalbopbgfgdaaDpDev
namespace Go.Proofs.Ytmoalbopbgfgdaa.fnExactDevOk
open Go.ChangeShapes Go.WideShapes Go.ChangeAt Go.RowKit
set_option linter.unusedVariables false

theorem own : ownKnob Try.prog.godebug = none := by kernel_rfl
theorem laidOut : laidOutB Try.prog = true := by kernel_rfl

set_option maxHeartbeats 2000000 in
theorem walk (A_x0 : Option Addr) (A_m0 A_d0 : Nat) (A_x1 : Option Addr) (A_m1 A_d1 : Nat) (p0 : DevD) (w : World) (h0 : RdDev w [.slice A_x0 A_m0 A_d0, .slice A_x1 A_m1 A_d1, .int .i64 p0.fuse, .bool p0.down] p0) :
    Calls Try.prog 6 #[.agg #[.slice A_x0 A_m0 A_d0, .slice A_x1 A_m1 A_d1, .int .i64 p0.fuse, .bool p0.down]] w fun e w' => e = .returned (.bool true) ∧ Below w.heap.size w w' := by
  have HA0 : Hd (RdDev w [.slice A_x0 A_m0 A_d0, .slice A_x1 A_m1 A_d1, .int .i64 p0.fuse, .bool p0.down] p0) := ⟨h0⟩
  clear h0
  go_enter Try.func6, Try.ntmps6
  go_wp2_with fail
  obtain ⟨w1, hW1⟩ : ∃ W, w.alloc (.cells #[.slice A_x0 A_m0 A_d0, .slice A_x1 A_m1 A_d1, .int .i64 p0.fuse, .bool p0.down] 48) = W := ⟨_, rfl⟩
  obtain ⟨U0, hU0⟩ : ∃ U, w.heap.size + 1 = U := ⟨_, rfl⟩
  have B0 : Hd (Below w.heap.size w w1) := ⟨by rw [← hW1]; exact below_lit w _⟩
  have S0 : Hd (U0 ≤ w1.heap.size) := ⟨by rw [← hW1, ← hU0]; simp⟩
  have IV : Hd (w.heap.size + 1 = U0) := ⟨hU0⟩
  have A_0 : Hd (VR 48 RdDev (U0) w.heap.size [.slice A_x0 A_m0 A_d0, .slice A_x1 A_m1 A_d1, .int .i64 p0.fuse, .bool p0.down] (p0) w1) := ⟨by rw [← hW1, ← hU0]; exact vr_new rdDev_ok HA0.out⟩
  rewrite [hW1]
  clear hW1 hU0 HA0
  refine (szDev_rd _ p0 1048576 _ (A_0.out.lo.rd rdDev_ok) ⟨by omega, by omega⟩).mono ?_
  rintro e w2 ⟨⟨l, rfl, hl1, hl2, hl3⟩, hB⟩
  have A_1 : Hd (VR 48 RdDev (U0) w.heap.size [.slice A_x0 A_m0 A_d0, .slice A_x1 A_m1 A_d1, .int .i64 p0.fuse, .bool p0.down] (p0) w2) := ⟨A_0.out.below (by have := S0.out; have := IV.out; omega) hB⟩
  have B1 : Hd (Below w.heap.size w w2) := ⟨Below.next B0.out hB⟩
  have S1 : Hd (U0 ≤ w2.heap.size) := ⟨Nat.le_trans S0.out hB.size⟩
  clear A_0 B0 S0
  clear hB
  by_cases hl0 : l < 0
  · go_wp2_with fail
    go_ret
    exact ⟨rfl, B1.out⟩
  have HP0 : Hd (wtDev p0 ≤ 1048576) := ⟨by have := hl3 (by omega); omega⟩
  clear hl1 hl2 hl3
  obtain ⟨r, hr⟩ : ∃ r, devOk p0 = r := ⟨_, rfl⟩
  have HR : Hd (devOk p0 = r) := ⟨hr⟩
  clear hr
  have hrr : (r != r) = false := by simp
  have c0 := cellsA A_1.out.box 0 rfl
  have c1 := cellsA A_1.out.box 1 rfl
  have c2 := cellsA A_1.out.box 2 rfl
  have c3 := cellsA A_1.out.box 3 rfl
  go_wp2_with fail
  clear c0 c1 c2 c3
  refine (toDev_rd _ p0 _ (A_1.out.lo.rd rdDev_ok) (by have := HP0.out; omega)).mono ?_
  rintro e w3 ⟨⟨css0, rfl, hN⟩, hB⟩
  have hT : RdDev w3 css0 p0 := by obtain ⟨F9, hE9, _⟩ := hN; exact owDev_ok.rd hE9
  clear hN
  have A_2 : Hd (VR 48 RdDev (U0) w.heap.size [.slice A_x0 A_m0 A_d0, .slice A_x1 A_m1 A_d1, .int .i64 p0.fuse, .bool p0.down] (p0) w3) := ⟨A_1.out.below (by have := S1.out; have := IV.out; omega) hB⟩
  have B2 : Hd (Below w.heap.size w w3) := ⟨Below.next B1.out hB⟩
  have S2 : Hd (U0 ≤ w3.heap.size) := ⟨Nat.le_trans S1.out hB.size⟩
  clear A_1 B1 S1
  clear hB
  have Ts0 : Hd (RdDev w3 css0 (p0)) := ⟨hT⟩
  clear hT
  go_wp2_with fail
  refine (specDevOk_rd _ p0 _ Ts0.out).mono ?_
  rintro e w4 ⟨rfl, hB⟩
  rewrite [HR.out]
  clear Ts0
  have A_3 : Hd (VR 48 RdDev (U0) w.heap.size [.slice A_x0 A_m0 A_d0, .slice A_x1 A_m1 A_d1, .int .i64 p0.fuse, .bool p0.down] (p0) w4) := ⟨A_2.out.below (by have := S2.out; have := IV.out; omega) hB⟩
  have B3 : Hd (Below w.heap.size w w4) := ⟨Below.next B2.out hB⟩
  have S3 : Hd (U0 ≤ w4.heap.size) := ⟨Nat.le_trans S2.out hB.size⟩
  clear A_2 B2 S2
  clear hB
  have c0 := cellsA A_3.out.box 0 rfl
  have c1 := cellsA A_3.out.box 1 rfl
  have c2 := cellsA A_3.out.box 2 rfl
  have c3 := cellsA A_3.out.box 3 rfl
  go_wp2_with fail
  clear c0 c1 c2 c3
  obtain ⟨LX, hLX⟩ : ∃ L, w4.heap.size = L := ⟨_, rfl⟩
  have hLS : U0 ≤ LX := by rw [← hLX]; exact S3.out
  refine (toDev_rd _ p0 _ (A_3.out.lo.rd rdDev_ok) (by have := HP0.out; omega)).mono ?_
  rintro e w5 ⟨⟨csr, rfl, hA⟩, hB⟩
  rw [hLX] at hA
  obtain ⟨F9, hE9, _⟩ := id hA
  have hA8 := hE9
  simp only [OwDev] at hA8
  obtain ⟨X_x0, X_m0, X_d0, X_x1, X_m1, X_d1, _, _, rfl, _⟩ := hA8
  clear hE9
  have hLv : LX ≤ w5.heap.size := by rw [← hLX]; exact hB.size
  clear hLX
  have A_4 : Hd (VR 48 RdDev (U0) w.heap.size [.slice A_x0 A_m0 A_d0, .slice A_x1 A_m1 A_d1, .int .i64 p0.fuse, .bool p0.down] (p0) w5) := ⟨A_3.out.below (by have := S3.out; have := IV.out; omega) hB⟩
  have B4 : Hd (Below w.heap.size w w5) := ⟨Below.next B3.out hB⟩
  have S4 : Hd (U0 ≤ w5.heap.size) := ⟨Nat.le_trans S3.out hB.size⟩
  clear A_3 B3 S3
  clear hB
  obtain ⟨bX, hb9⟩ : ∃ b, w5.heap.size = b := ⟨_, rfl⟩
  obtain ⟨w6, hW9⟩ : ∃ W, w5.alloc (.cells #[.slice X_x0 X_m0 X_d0, .slice X_x1 X_m1 X_d1, .int .i64 p0.fuse, .bool p0.down] 27) = W := ⟨_, rfl⟩
  have hBx : Below w5.heap.size w5 w6 := by rw [← hW9]; exact below_lit _ _
  have hsz : bX + 1 ≤ w6.heap.size := by rw [← hW9, ← hb9]; simp
  have hLb : LX ≤ bX := by rw [← hb9]; exact hLv
  obtain ⟨FX, hX⟩ := vo_new (T := 27) owDev_ok hA hLv
  rw [hb9] at hX
  have hX2 : VO 27 OwDev LX (bX + 1) bX [.slice X_x0 X_m0 X_d0, .slice X_x1 X_m1 X_d1, .int .i64 p0.fuse, .bool p0.down] FX (p0) w6 := by rw [← hW9]; exact hX
  clear hX
  clear hA
  have HW9 : Hd (w5.alloc (.cells #[.slice X_x0 X_m0 X_d0, .slice X_x1 X_m1 X_d1, .int .i64 p0.fuse, .bool p0.down] 27) = w6 ∧ w5.heap.size = bX) := ⟨hW9, hb9⟩
  clear hW9 hb9
  have A_5 : Hd (VR 48 RdDev (U0) w.heap.size [.slice A_x0 A_m0 A_d0, .slice A_x1 A_m1 A_d1, .int .i64 p0.fuse, .bool p0.down] (p0) w6) := ⟨A_4.out.below (by have := S4.out; have := IV.out; omega) hBx⟩
  have B5 : Hd (Below w.heap.size w w6) := ⟨Below.next B4.out hBx⟩
  have S5 : Hd (U0 ≤ w6.heap.size) := ⟨Nat.le_trans S4.out hBx.size⟩
  clear A_4 B4 S4
  clear hBx
  have IV2 : Hd (w.heap.size + 1 = U0 ∧ U0 ≤ LX ∧ LX ≤ bX) := ⟨by have := IV.out; omega⟩
  clear IV hLS hLb hLv
  have IV := IV2
  clear IV2
  have S6 : Hd (bX + 1 ≤ w6.heap.size) := ⟨hsz⟩
  clear S5 hsz
  have X_0 : Hd (VO 27 OwDev LX (bX + 1) bX [.slice X_x0 X_m0 X_d0, .slice X_x1 X_m1 X_d1, .int .i64 p0.fuse, .bool p0.down] FX (p0) w6) := ⟨hX2⟩
  clear hX2
  have hW9 := HW9.out.1
  have hb9 := HW9.out.2
  have c0 := cellsA X_0.out.box 0 rfl
  have c1 := cellsA X_0.out.box 1 rfl
  have c2 := cellsA X_0.out.box 2 rfl
  have c3 := cellsA X_0.out.box 3 rfl
  go_wp2_with fail
  clear hW9 hb9 HW9 c0 c1 c2 c3
  refine (implDevOk_rd _ p0 _ (owDev_ok.rd X_0.out.own)).mono ?_
  rintro e w7 ⟨rfl, hB⟩
  rewrite [HR.out]
  have A_6 : Hd (VR 48 RdDev (U0) w.heap.size [.slice A_x0 A_m0 A_d0, .slice A_x1 A_m1 A_d1, .int .i64 p0.fuse, .bool p0.down] (p0) w7) := ⟨A_5.out.below (by have := S6.out; have := IV.out; omega) hB⟩
  have X_1 : Hd (VO 27 OwDev LX (bX + 1) bX [.slice X_x0 X_m0 X_d0, .slice X_x1 X_m1 X_d1, .int .i64 p0.fuse, .bool p0.down] FX (p0) w7) := ⟨X_0.out.below owDev_ok hB⟩
  have B7 : Hd (Below w.heap.size w w7) := ⟨Below.next B5.out hB⟩
  have S7 : Hd (bX + 1 ≤ w7.heap.size) := ⟨Nat.le_trans S6.out hB.size⟩
  clear A_5 X_0 B5 S6
  clear hB
  have c0 := cellsA X_1.out.box 0 rfl
  have c1 := cellsA X_1.out.box 1 rfl
  have c2 := cellsA X_1.out.box 2 rfl
  have c3 := cellsA X_1.out.box 3 rfl
  have g0 := cellsA A_6.out.box 0 rfl
  have g1 := cellsA A_6.out.box 1 rfl
  have g2 := cellsA A_6.out.box 2 rfl
  have g3 := cellsA A_6.out.box 3 rfl
  go_wp2_with fail
  clear c0 c1 c2 c3 g0 g1 g2 g3
  have KK : Hd (∀ w', Below w7.heap.size w7 w' → (w'.cell? ⟨bX, 0, none⟩ = some (.slice X_x0 X_m0 X_d0) ∧ w'.cell? ⟨bX, 1, none⟩ = some (.slice X_x1 X_m1 X_d1) ∧ w'.cell? ⟨bX, 2, none⟩ = some (.int .i64 p0.fuse) ∧ w'.cell? ⟨bX, 3, none⟩ = some (.bool p0.down) ∧ w'.cell? ⟨w.heap.size, 0, none⟩ = some (.slice A_x0 A_m0 A_d0) ∧ w'.cell? ⟨w.heap.size, 1, none⟩ = some (.slice A_x1 A_m1 A_d1) ∧ w'.cell? ⟨w.heap.size, 2, none⟩ = some (.int .i64 p0.fuse) ∧ w'.cell? ⟨w.heap.size, 3, none⟩ = some (.bool p0.down))) := ⟨fun w' hb => ⟨cell_below (cellsA X_1.out.box 0 rfl) hb, cell_below (cellsA X_1.out.box 1 rfl) hb, cell_below (cellsA X_1.out.box 2 rfl) hb, cell_below (cellsA X_1.out.box 3 rfl) hb, cell_below (cellsA A_6.out.box 0 rfl) hb, cell_below (cellsA A_6.out.box 1 rfl) hb, cell_below (cellsA A_6.out.box 2 rfl) hb, cell_below (cellsA A_6.out.box 3 rfl) hb⟩⟩
  have D0 : Hd (Below w7.heap.size w7 w7.drew) := ⟨(Below.refl _ w7).drew⟩
  have c0 := cellsA X_1.out.box 0 rfl
  have c1 := cellsA X_1.out.box 1 rfl
  have c2 := cellsA X_1.out.box 2 rfl
  have c3 := cellsA X_1.out.box 3 rfl
  have g0 := cellsA A_6.out.box 0 rfl
  have g1 := cellsA A_6.out.box 1 rfl
  have g2 := cellsA A_6.out.box 2 rfl
  have g3 := cellsA A_6.out.box 3 rfl
  go_region_held (fun w' => w'.cell? ⟨bX, 0, none⟩ = some (.slice X_x0 X_m0 X_d0) ∧ w'.cell? ⟨bX, 1, none⟩ = some (.slice X_x1 X_m1 X_d1) ∧ w'.cell? ⟨bX, 2, none⟩ = some (.int .i64 p0.fuse) ∧ w'.cell? ⟨bX, 3, none⟩ = some (.bool p0.down) ∧ w'.cell? ⟨w.heap.size, 0, none⟩ = some (.slice A_x0 A_m0 A_d0) ∧ w'.cell? ⟨w.heap.size, 1, none⟩ = some (.slice A_x1 A_m1 A_d1) ∧ w'.cell? ⟨w.heap.size, 2, none⟩ = some (.int .i64 p0.fuse) ∧ w'.cell? ⟨w.heap.size, 3, none⟩ = some (.bool p0.down)) (first | (with_reducible exact KK.out _ D2.out) | (with_reducible exact KK.out _ D1.out) | (with_reducible exact KK.out _ D0.out))
    (first | (go_at_call 31; refine (eqDev_rd _ cs9 p0 _ (rdDev_ok.below (owDev_ok.rd X_1.out.own) D1.out) R9.out (by have := HP0.out; omega)).mono ?_; rintro e w8 ⟨rfl, hB9⟩; have D2 : Hd (Below w7.heap.size w7 w8) := ⟨Below.next D1.out hB9⟩; clear hB9) | (go_at_call 35; refine (toDev_rd _ p0 _ (rdDev_ok.below (A_6.out.lo.rd rdDev_ok) D0.out) (by have := HP0.out; omega)).mono ?_; rintro e wv ⟨⟨cs9, rfl, hN9⟩, hB9⟩; have D1 : Hd (Below w7.heap.size w7 wv) := ⟨Below.next D0.out hB9⟩; have R9 : Hd (RdDev wv cs9 p0) := (⟨by obtain ⟨F9, hE9, _⟩ := hN9; exact owDev_ok.rd hE9⟩); clear hB9 hN9))
  have hB : Below w7.heap.size w7 w8 := D2.out
  clear D2 D1 D0 KK R9 c0 c1 c2 c3 g0 g1 g2 g3
  have A_7 : Hd (VR 48 RdDev (U0) w.heap.size [.slice A_x0 A_m0 A_d0, .slice A_x1 A_m1 A_d1, .int .i64 p0.fuse, .bool p0.down] (p0) w8) := ⟨A_6.out.below (by have := S7.out; have := IV.out; omega) hB⟩
  have X_2 : Hd (VO 27 OwDev LX (bX + 1) bX [.slice X_x0 X_m0 X_d0, .slice X_x1 X_m1 X_d1, .int .i64 p0.fuse, .bool p0.down] FX (p0) w8) := ⟨X_1.out.below owDev_ok hB⟩
  have B8 : Hd (Below w.heap.size w w8) := ⟨Below.next B7.out hB⟩
  have S8 : Hd (bX + 1 ≤ w8.heap.size) := ⟨Nat.le_trans S7.out hB.size⟩
  clear A_6 X_1 B7 S7
  clear hB
  go_wp2_with fail
  go_ret
  exact ⟨rfl, B8.out⟩

set_option maxRecDepth 100000 in
theorem lifted (os : Os) (started : os.Started) (H : Type) (enc : TypeId × Value → H) :
    ReturnsInHanded {} Try.checked os 6 .any (Rows.fnExactDevOkSpec.pre6 enc Try.prog Try.f6 Rows.fnExactDevOkRow.domain false) (Rows.fnExactDevOkSpec.post enc Try.prog Try.f6 false true false false) := by
  refine returnsInHanded_of_change (C := Try.checked) own started (by kernel_rfl) Try.func6
    (ChangeSpec.witness6 (enc := enc) (C := Try.checked) false ⟨#[], #[.agg #[.slice none 0 0, .slice none 0 0, .int .i64 0, .bool false]], []⟩ 8 (by kernel_rfl) (by kernel_rfl) (by kernel_rfl) (by kernel_rfl)) ?_
  intro W base args ds gs before hval0 hW hcnd _
  have hval : ∀ (j : Nat) t v, Try.f6.params[j]? = some t → args[j]? = some v → Value.okWide Try.prog W .any base t v := hval0
  have hW' := hW
  obtain ⟨p, q, hA0, hV, rfl, hfz, hnd⟩ := hW
  have hA : DataW.TrodAll enc Try.prog W 0 (fun _ => true) true Try.f6.params.toList args.toList ds p := hA0
  rw [Try.params6] at hA hval
  obtain ⟨v0, vs0, d0, ds0, p0, q0, hargs, rfl, rfl, h0, r0⟩ := trodAll_cons hA
  obtain ⟨rfl, rfl, rfl⟩ := trodAll_nil r0
  obtain rfl : args = #[v0] := by cases args; simp_all
  obtain ⟨rfl, rfl⟩ := trodVars_none hV
  have k0 := h0
  have lt0 : ∀ x ∈ p0, x.block < W.heap.size := by obtain ⟨m, hm⟩ := k0; exact DataW.trod_lt m _ _ _ hm
  obtain ⟨cs0, rfl, _⟩ := okWide_struct Try.underlying48 (hval 0 48 v0 rfl rfl)
  obtain ⟨e0, g0⟩ : ∃ a, RdDev W cs0.toList a := by obtain ⟨fuel, hf⟩ := h0; exact rdDev_trod enc W 0 _ true fuel _ _ hf
  obtain ⟨A_x0, A_m0, A_d0, A_x1, A_m1, A_d1, hcs0, _⟩ := id g0
  obtain rfl : cs0 = #[.slice A_x0 A_m0 A_d0, .slice A_x1 A_m1 A_d1, .int .i64 e0.fuse, .bool e0.down] := by apply Array.toList_inj.1; rw [hcs0]
  clear hA0 hval0
  refine (walk A_x0 A_m0 A_d0 A_x1 A_m1 A_d1 e0 W g0).mono fun e W' ⟨he, hg⟩ => ?_
  subst he
  exact ⟨_, rfl, _, _, _, [], _, [], hW', trodAll_mk1 (shut_bool Try.underlying4 _), (trodAll_cons_mk (Below.trod laidOut (by kernel_rfl) (of_decide_eq_true (by kernel_rfl)) k0 hg lt0) trodAll_mk0), rfl, hg.frame _, fun h => by cases h⟩

theorem over : Rows.fnExactDevOkRow.holds Try.pinned (OpenSpec.ofChange Rows.fnExactDevOkSpec) :=
  OpenClaim.holds_of_wide 6 Try.f6 rfl rfl rfl rfl rfl rfl rfl ⟨rfl, rfl, rfl, rfl, rfl⟩ rfl rfl rfl rfl rfl (by kernel_rfl) Try.func6 (by kernel_rfl)
    (of_decide_eq_true (by kernel_rfl)) (by unfold Func.isWrapper; first | (rw [if_pos (by decide +kernel)]; kernel_rfl) | (rw [if_neg (by decide +kernel)]; exact ⟨rfl, rfl⟩))
    (fun os started H enc _ => lifted os started H enc)

end Go.Proofs.Ytmoalbopbgfgdaa.fnExactDevOk

namespace Go.Proofs.Ytmoalbopbgfgdaa
theorem FnExactDevOk_holds : Rows.FnExactDevOkSaid := fnExactDevOk.over
#print axioms FnExactDevOk_holds
end Go.Proofs.Ytmoalbopbgfgdaa
