/- Exact: DevNew of the program is what the specification's is. -/
import Derived.Test.YtmoalbopbgfgdaaRows
import Derived.WalkKit
import Derived.ProofKit
import Derived.OpenShut
import Derived.ChangeOld
import Derived.Below
import Derived.OpenVars
import Derived.Stop.Joined
import Derived.Lib.SmallJoins
import Derived.Deep.RegionHeld3
import Derived.Deep.RegionHeldLaw
import Derived.Test.YtmoalbopbgfgdaaTrodDev
import Derived.Test.YtmoalbopbgfgdaaExact
import Derived.Test.YtmoalbopbgfgdaaDevNw
import Derived.Test.YtmoalbopbgfgdaaDevWt
import Derived.Test.YtmoalbopbgfgdaaDpDev
namespace Go.Proofs.Ytmoalbopbgfgdaa.fnExactDevNew
open Go.ChangeShapes Go.WideShapes Go.ChangeAt Go.RowKit
set_option linter.unusedVariables false

theorem own : ownKnob Try.prog.godebug = none := by kernel_rfl
theorem laidOut : laidOutB Try.prog = true := by kernel_rfl

set_option maxHeartbeats 2000000 in
theorem walk (a0 : Int) (w0 : (Lit.int .i64 a0).wf = true) (w : World)  :
    Calls Try.prog 5 #[.int .i64 a0] w fun e w' => e = .returned (.bool true) ∧ Below w.heap.size w w' := by
  go_enter Try.func5, Try.ntmps5
  go_wp2_with fail
  obtain ⟨U0, hU0⟩ : ∃ U, w.heap.size = U := ⟨_, rfl⟩
  have B0 : Hd (Below w.heap.size w w) := ⟨Below.refl _ w⟩
  have S0 : Hd (U0 ≤ w.heap.size) := ⟨by omega⟩
  have IV : Hd (w.heap.size = U0) := ⟨hU0⟩
  clear hU0
  have hwt := devNew_wt a0
  obtain ⟨r, hr⟩ : ∃ r, devNew a0 = r := ⟨_, rfl⟩
  rw [hr] at hwt
  have HR : Hd (devNew a0 = r ∧ wtDev r ≤ 1073741824 ∧ 1 + cuDev r ≤ 1073741824) := ⟨hr, hwt⟩
  clear hr hwt
  obtain ⟨LW, hLW⟩ : ∃ L, w.heap.size = L := ⟨_, rfl⟩
  have hLS : U0 ≤ LW := by rw [← hLW]; exact S0.out
  refine ((specDevNew_rd a0 _ )).mono ?_
  rintro e w1 ⟨⟨csr, rfl, hA⟩, hB⟩
  rw [HR.out.1] at hA
  have hA8 := hA
  simp only [RdDev] at hA8
  obtain ⟨W_x0, W_m0, W_d0, W_x1, W_m1, W_d1, rfl, _⟩ := hA8
  have hLv : LW ≤ w1.heap.size := by rw [← hLW]; exact hB.size
  clear hLW
  have B1 : Hd (Below w.heap.size w w1) := ⟨Below.next B0.out hB⟩
  have S1 : Hd (U0 ≤ w1.heap.size) := ⟨Nat.le_trans S0.out hB.size⟩
  clear B0 S0
  clear hB
  obtain ⟨bW, hb9⟩ : ∃ b, w1.heap.size = b := ⟨_, rfl⟩
  obtain ⟨w2, hW9⟩ : ∃ W, w1.alloc (.cells #[.slice W_x0 W_m0 W_d0, .slice W_x1 W_m1 W_d1, .int .i64 r.fuse, .bool r.down] 27) = W := ⟨_, rfl⟩
  have hBx : Below w1.heap.size w1 w2 := by rw [← hW9]; exact below_lit _ _
  have hsz : bW + 1 ≤ w2.heap.size := by rw [← hW9, ← hb9]; simp
  have hLb : LW ≤ bW := by rw [← hb9]; exact hLv
  have hX2 : VR 27 RdDev (bW + 1) bW [.slice W_x0 W_m0 W_d0, .slice W_x1 W_m1 W_d1, .int .i64 r.fuse, .bool r.down] (r) w2 := by rw [← hW9, ← hb9]; exact vr_new rdDev_ok hA
  clear hA
  have HW9 : Hd (w1.alloc (.cells #[.slice W_x0 W_m0 W_d0, .slice W_x1 W_m1 W_d1, .int .i64 r.fuse, .bool r.down] 27) = w2 ∧ w1.heap.size = bW) := ⟨hW9, hb9⟩
  clear hW9 hb9
  have B2 : Hd (Below w.heap.size w w2) := ⟨Below.next B1.out hBx⟩
  have S2 : Hd (U0 ≤ w2.heap.size) := ⟨Nat.le_trans S1.out hBx.size⟩
  clear B1 S1
  clear hBx
  have IV2 : Hd (w.heap.size = U0 ∧ U0 ≤ LW ∧ LW ≤ bW) := ⟨by have := IV.out; omega⟩
  clear IV hLS hLb hLv
  have IV := IV2
  clear IV2
  have S3 : Hd (bW + 1 ≤ w2.heap.size) := ⟨hsz⟩
  clear S2 hsz
  have W_0 : Hd (VR 27 RdDev (bW + 1) bW [.slice W_x0 W_m0 W_d0, .slice W_x1 W_m1 W_d1, .int .i64 r.fuse, .bool r.down] (r) w2) := ⟨hX2⟩
  clear hX2
  have hW9 := HW9.out.1
  have hb9 := HW9.out.2
  go_wp2_with fail
  clear hW9 hb9 HW9
  obtain ⟨LG, hLG⟩ : ∃ L, w2.heap.size = L := ⟨_, rfl⟩
  have hLS : bW + 1 ≤ LG := by rw [← hLG]; exact S3.out
  refine (implDevNew_rd a0 _ ).mono ?_
  rintro e w3 ⟨⟨csr, rfl, hA⟩, hB⟩
  rw [HR.out.1] at hA
  rw [hLG] at hA
  obtain ⟨F9, hE9, _⟩ := id hA
  have hA8 := hE9
  simp only [OwDev] at hA8
  obtain ⟨G_x0, G_m0, G_d0, G_x1, G_m1, G_d1, _, _, rfl, _⟩ := hA8
  clear hE9
  have hLv : LG ≤ w3.heap.size := by rw [← hLG]; exact hB.size
  clear hLG
  have W_1 : Hd (VR 27 RdDev (bW + 1) bW [.slice W_x0 W_m0 W_d0, .slice W_x1 W_m1 W_d1, .int .i64 r.fuse, .bool r.down] (r) w3) := ⟨W_0.out.below (by have := S3.out; have := IV.out; omega) hB⟩
  have B4 : Hd (Below w.heap.size w w3) := ⟨Below.next B2.out hB⟩
  have S4 : Hd (bW + 1 ≤ w3.heap.size) := ⟨Nat.le_trans S3.out hB.size⟩
  clear W_0 B2 S3
  clear hB
  obtain ⟨bG, hb9⟩ : ∃ b, w3.heap.size = b := ⟨_, rfl⟩
  obtain ⟨w4, hW9⟩ : ∃ W, w3.alloc (.cells #[.slice G_x0 G_m0 G_d0, .slice G_x1 G_m1 G_d1, .int .i64 r.fuse, .bool r.down] 27) = W := ⟨_, rfl⟩
  have hBx : Below w3.heap.size w3 w4 := by rw [← hW9]; exact below_lit _ _
  have hsz : bG + 1 ≤ w4.heap.size := by rw [← hW9, ← hb9]; simp
  have hLb : LG ≤ bG := by rw [← hb9]; exact hLv
  obtain ⟨FG, hX⟩ := vo_new (T := 27) owDev_ok hA hLv
  rw [hb9] at hX
  have hX2 : VO 27 OwDev LG (bG + 1) bG [.slice G_x0 G_m0 G_d0, .slice G_x1 G_m1 G_d1, .int .i64 r.fuse, .bool r.down] FG (r) w4 := by rw [← hW9]; exact hX
  clear hX
  clear hA
  have HW9 : Hd (w3.alloc (.cells #[.slice G_x0 G_m0 G_d0, .slice G_x1 G_m1 G_d1, .int .i64 r.fuse, .bool r.down] 27) = w4 ∧ w3.heap.size = bG) := ⟨hW9, hb9⟩
  clear hW9 hb9
  have W_2 : Hd (VR 27 RdDev (bW + 1) bW [.slice W_x0 W_m0 W_d0, .slice W_x1 W_m1 W_d1, .int .i64 r.fuse, .bool r.down] (r) w4) := ⟨W_1.out.below (by have := S4.out; have := IV.out; omega) hBx⟩
  have B5 : Hd (Below w.heap.size w w4) := ⟨Below.next B4.out hBx⟩
  have S5 : Hd (bW + 1 ≤ w4.heap.size) := ⟨Nat.le_trans S4.out hBx.size⟩
  clear W_1 B4 S4
  clear hBx
  have IV2 : Hd (w.heap.size = U0 ∧ U0 ≤ LW ∧ LW ≤ bW ∧ bW + 1 ≤ LG ∧ LG ≤ bG) := ⟨by have := IV.out; omega⟩
  clear IV hLS hLb hLv
  have IV := IV2
  clear IV2
  have S6 : Hd (bG + 1 ≤ w4.heap.size) := ⟨hsz⟩
  clear S5 hsz
  have G_0 : Hd (VO 27 OwDev LG (bG + 1) bG [.slice G_x0 G_m0 G_d0, .slice G_x1 G_m1 G_d1, .int .i64 r.fuse, .bool r.down] FG (r) w4) := ⟨hX2⟩
  clear hX2
  have hW9 := HW9.out.1
  have hb9 := HW9.out.2
  have c0 := cellsA G_0.out.box 0 rfl
  have c1 := cellsA G_0.out.box 1 rfl
  have c2 := cellsA G_0.out.box 2 rfl
  have c3 := cellsA G_0.out.box 3 rfl
  have g0 := cellsA W_2.out.box 0 rfl
  have g1 := cellsA W_2.out.box 1 rfl
  have g2 := cellsA W_2.out.box 2 rfl
  have g3 := cellsA W_2.out.box 3 rfl
  go_wp2_with fail
  clear hW9 hb9 HW9 c0 c1 c2 c3 g0 g1 g2 g3
  refine (eqDev_rd _ _ (r) _ (owDev_ok.rd G_0.out.own) (W_2.out.lo.rd rdDev_ok) (HR.out.2.1)).mono ?_
  rintro e w5 ⟨rfl, hB⟩
  have W_3 : Hd (VR 27 RdDev (bW + 1) bW [.slice W_x0 W_m0 W_d0, .slice W_x1 W_m1 W_d1, .int .i64 r.fuse, .bool r.down] (r) w5) := ⟨W_2.out.below (by have := S6.out; have := IV.out; omega) hB⟩
  have G_1 : Hd (VO 27 OwDev LG (bG + 1) bG [.slice G_x0 G_m0 G_d0, .slice G_x1 G_m1 G_d1, .int .i64 r.fuse, .bool r.down] FG (r) w5) := ⟨G_0.out.below owDev_ok hB⟩
  have B7 : Hd (Below w.heap.size w w5) := ⟨Below.next B5.out hB⟩
  have S7 : Hd (bG + 1 ≤ w5.heap.size) := ⟨Nat.le_trans S6.out hB.size⟩
  clear W_2 G_0 B5 S6
  clear hB
  have c0 := cellsA G_1.out.box 0 rfl
  have c1 := cellsA G_1.out.box 1 rfl
  have c2 := cellsA G_1.out.box 2 rfl
  have c3 := cellsA G_1.out.box 3 rfl
  go_wp2_with fail
  clear c0 c1 c2 c3
  refine (markDev_ow _ FG (r) (1) _ G_1.out.own (by exact HR.out.2.2)).mono ?_
  rintro e w6 ⟨rfl, hO, hC⟩
  have hin : ∀ x, FG x → LG ≤ x ∧ x < bG + 1 := G_1.out.in_
  have W_4 : Hd (VR 27 RdDev (bW + 1) bW [.slice W_x0 W_m0 W_d0, .slice W_x1 W_m1 W_d1, .int .i64 r.fuse, .bool r.down] (r) w6) := ⟨W_3.out.chg (by have := S7.out; have := IV.out; omega) hC (fun x hx => by have := hin x hx; have := IV.out; omega)⟩
  have G_2 : Hd (VO 27 OwDev LG (bG + 1) bG [.slice G_x0 G_m0 G_d0, .slice G_x1 G_m1 G_d1, .int .i64 r.fuse, .bool r.down] FG (mtDev (1) (r)) w6) := ⟨G_1.out.marked hO hC⟩
  have B8 : Hd (Below w.heap.size w w6) := ⟨B7.out.trans (hC.below (fun x hx => by have := hin x hx; have := IV.out; omega) B7.out.size)⟩
  have S8 : Hd (bG + 1 ≤ w6.heap.size) := ⟨Nat.le_trans S7.out hC.size⟩
  clear W_3 G_1 B7 S7
  clear hin hO hC
  have c0 := cellsA G_2.out.box 0 rfl
  have c1 := cellsA G_2.out.box 1 rfl
  have c2 := cellsA G_2.out.box 2 rfl
  have c3 := cellsA G_2.out.box 3 rfl
  go_wp2_with fail
  clear c0 c1 c2 c3
  refine (heldDev_rd _ (r) (1) _ (owDev_ok.rd G_2.out.own) (by exact HR.out.2.2)).mono ?_
  rintro e w7 ⟨rfl, hB⟩
  have W_5 : Hd (VR 27 RdDev (bW + 1) bW [.slice W_x0 W_m0 W_d0, .slice W_x1 W_m1 W_d1, .int .i64 r.fuse, .bool r.down] (r) w7) := ⟨W_4.out.below (by have := S8.out; have := IV.out; omega) hB⟩
  have G_3 : Hd (VO 27 OwDev LG (bG + 1) bG [.slice G_x0 G_m0 G_d0, .slice G_x1 G_m1 G_d1, .int .i64 r.fuse, .bool r.down] FG (mtDev (1) (r)) w7) := ⟨G_2.out.below owDev_ok hB⟩
  have B9 : Hd (Below w.heap.size w w7) := ⟨Below.next B8.out hB⟩
  have S9 : Hd (bG + 1 ≤ w7.heap.size) := ⟨Nat.le_trans S8.out hB.size⟩
  clear W_4 G_2 B8 S8
  clear hB
  go_wp2_with fail
  have hq : ¬ (((1 + cuDev (r) : Nat) : Int) < 0) := by omega
  have hqm : (((1 + cuDev (r) : Nat) : Int) != ((1 + cuDev (r) : Nat) : Int)) = false := by simp
  go_wp2_with fail
  obtain ⟨LH, hLH⟩ : ∃ L, w7.heap.size = L := ⟨_, rfl⟩
  have hLS : bG + 1 ≤ LH := by rw [← hLH]; exact S9.out
  refine (implDevNew_rd a0 _ ).mono ?_
  rintro e w8 ⟨⟨csr, rfl, hA⟩, hB⟩
  rw [HR.out.1] at hA
  rw [hLH] at hA
  obtain ⟨F9, hE9, _⟩ := id hA
  have hA8 := hE9
  simp only [OwDev] at hA8
  obtain ⟨H_x0, H_m0, H_d0, H_x1, H_m1, H_d1, _, _, rfl, _⟩ := hA8
  clear hE9
  have hLv : LH ≤ w8.heap.size := by rw [← hLH]; exact hB.size
  clear hLH
  have W_6 : Hd (VR 27 RdDev (bW + 1) bW [.slice W_x0 W_m0 W_d0, .slice W_x1 W_m1 W_d1, .int .i64 r.fuse, .bool r.down] (r) w8) := ⟨W_5.out.below (by have := S9.out; have := IV.out; omega) hB⟩
  have G_4 : Hd (VO 27 OwDev LG (bG + 1) bG [.slice G_x0 G_m0 G_d0, .slice G_x1 G_m1 G_d1, .int .i64 r.fuse, .bool r.down] FG (mtDev (1) (r)) w8) := ⟨G_3.out.below owDev_ok hB⟩
  have B10 : Hd (Below w.heap.size w w8) := ⟨Below.next B9.out hB⟩
  have S10 : Hd (bG + 1 ≤ w8.heap.size) := ⟨Nat.le_trans S9.out hB.size⟩
  clear W_5 G_3 B9 S9
  clear hB
  obtain ⟨bH, hb9⟩ : ∃ b, w8.heap.size = b := ⟨_, rfl⟩
  obtain ⟨w9, hW9⟩ : ∃ W, w8.alloc (.cells #[.slice H_x0 H_m0 H_d0, .slice H_x1 H_m1 H_d1, .int .i64 r.fuse, .bool r.down] 27) = W := ⟨_, rfl⟩
  have hBx : Below w8.heap.size w8 w9 := by rw [← hW9]; exact below_lit _ _
  have hsz : bH + 1 ≤ w9.heap.size := by rw [← hW9, ← hb9]; simp
  have hLb : LH ≤ bH := by rw [← hb9]; exact hLv
  obtain ⟨FH, hX⟩ := vo_new (T := 27) owDev_ok hA hLv
  rw [hb9] at hX
  have hX2 : VO 27 OwDev LH (bH + 1) bH [.slice H_x0 H_m0 H_d0, .slice H_x1 H_m1 H_d1, .int .i64 r.fuse, .bool r.down] FH (r) w9 := by rw [← hW9]; exact hX
  clear hX
  clear hA
  have HW9 : Hd (w8.alloc (.cells #[.slice H_x0 H_m0 H_d0, .slice H_x1 H_m1 H_d1, .int .i64 r.fuse, .bool r.down] 27) = w9 ∧ w8.heap.size = bH) := ⟨hW9, hb9⟩
  clear hW9 hb9
  have W_7 : Hd (VR 27 RdDev (bW + 1) bW [.slice W_x0 W_m0 W_d0, .slice W_x1 W_m1 W_d1, .int .i64 r.fuse, .bool r.down] (r) w9) := ⟨W_6.out.below (by have := S10.out; have := IV.out; omega) hBx⟩
  have G_5 : Hd (VO 27 OwDev LG (bG + 1) bG [.slice G_x0 G_m0 G_d0, .slice G_x1 G_m1 G_d1, .int .i64 r.fuse, .bool r.down] FG (mtDev (1) (r)) w9) := ⟨G_4.out.below owDev_ok hBx⟩
  have B11 : Hd (Below w.heap.size w w9) := ⟨Below.next B10.out hBx⟩
  have S11 : Hd (bG + 1 ≤ w9.heap.size) := ⟨Nat.le_trans S10.out hBx.size⟩
  clear W_6 G_4 B10 S10
  clear hBx
  have IV2 : Hd (w.heap.size = U0 ∧ U0 ≤ LW ∧ LW ≤ bW ∧ bW + 1 ≤ LG ∧ LG ≤ bG ∧ bG + 1 ≤ LH ∧ LH ≤ bH) := ⟨by have := IV.out; omega⟩
  clear IV hLS hLb hLv
  have IV := IV2
  clear IV2
  have S12 : Hd (bH + 1 ≤ w9.heap.size) := ⟨hsz⟩
  clear S11 hsz
  have H_0 : Hd (VO 27 OwDev LH (bH + 1) bH [.slice H_x0 H_m0 H_d0, .slice H_x1 H_m1 H_d1, .int .i64 r.fuse, .bool r.down] FH (r) w9) := ⟨hX2⟩
  clear hX2
  have hW9 := HW9.out.1
  have hb9 := HW9.out.2
  have c0 := cellsA H_0.out.box 0 rfl
  have c1 := cellsA H_0.out.box 1 rfl
  have c2 := cellsA H_0.out.box 2 rfl
  have c3 := cellsA H_0.out.box 3 rfl
  have g0 := cellsA W_7.out.box 0 rfl
  have g1 := cellsA W_7.out.box 1 rfl
  have g2 := cellsA W_7.out.box 2 rfl
  have g3 := cellsA W_7.out.box 3 rfl
  go_wp2_with fail
  clear hW9 hb9 HW9 c0 c1 c2 c3 g0 g1 g2 g3
  refine (eqDev_rd _ _ (r) _ (owDev_ok.rd H_0.out.own) (W_7.out.lo.rd rdDev_ok) (HR.out.2.1)).mono ?_
  rintro e w10 ⟨rfl, hB⟩
  have W_8 : Hd (VR 27 RdDev (bW + 1) bW [.slice W_x0 W_m0 W_d0, .slice W_x1 W_m1 W_d1, .int .i64 r.fuse, .bool r.down] (r) w10) := ⟨W_7.out.below (by have := S12.out; have := IV.out; omega) hB⟩
  have G_6 : Hd (VO 27 OwDev LG (bG + 1) bG [.slice G_x0 G_m0 G_d0, .slice G_x1 G_m1 G_d1, .int .i64 r.fuse, .bool r.down] FG (mtDev (1) (r)) w10) := ⟨G_5.out.below owDev_ok hB⟩
  have H_1 : Hd (VO 27 OwDev LH (bH + 1) bH [.slice H_x0 H_m0 H_d0, .slice H_x1 H_m1 H_d1, .int .i64 r.fuse, .bool r.down] FH (r) w10) := ⟨H_0.out.below owDev_ok hB⟩
  have B13 : Hd (Below w.heap.size w w10) := ⟨Below.next B11.out hB⟩
  have S13 : Hd (bH + 1 ≤ w10.heap.size) := ⟨Nat.le_trans S12.out hB.size⟩
  clear W_7 G_5 H_0 B11 S12
  clear hB
  have c0 := cellsA G_6.out.box 0 rfl
  have c1 := cellsA G_6.out.box 1 rfl
  have c2 := cellsA G_6.out.box 2 rfl
  have c3 := cellsA G_6.out.box 3 rfl
  go_wp2_with fail
  clear c0 c1 c2 c3
  clear H_1
  clear W_8
  refine (heldDev_rd _ (r) (1) _ (owDev_ok.rd G_6.out.own) (by exact HR.out.2.2)).mono ?_
  rintro e w11 ⟨rfl, hB⟩
  have G_7 : Hd (VO 27 OwDev LG (bG + 1) bG [.slice G_x0 G_m0 G_d0, .slice G_x1 G_m1 G_d1, .int .i64 r.fuse, .bool r.down] FG (mtDev (1) (r)) w11) := ⟨G_6.out.below owDev_ok hB⟩
  have B14 : Hd (Below w.heap.size w w11) := ⟨Below.next B13.out hB⟩
  have S14 : Hd (bH + 1 ≤ w11.heap.size) := ⟨Nat.le_trans S13.out hB.size⟩
  clear G_6 B13 S13
  clear hB
  go_wp2_with fail
  go_ret
  exact ⟨rfl, B14.out⟩

set_option maxRecDepth 100000 in
theorem lifted (os : Os) (started : os.Started) (H : Type) (enc : TypeId × Value → H) :
    ReturnsInHanded {} Try.checked os 5 .any (Rows.fnExactDevNewSpec.pre6 enc Try.prog Try.f5 Rows.fnExactDevNewRow.domain false) (Rows.fnExactDevNewSpec.post enc Try.prog Try.f5 false true false false) := by
  refine returnsInHanded_of_change (C := Try.checked) own started (by kernel_rfl) Try.func5
    (ChangeSpec.witness6 (enc := enc) (C := Try.checked) false ⟨#[], #[.int .i64 0], []⟩ 8 (by kernel_rfl) (by kernel_rfl) (by kernel_rfl) (by kernel_rfl)) ?_
  intro W base args ds gs before hval0 hW hcnd _
  have hval : ∀ (j : Nat) t v, Try.f5.params[j]? = some t → args[j]? = some v → Value.okWide Try.prog W .any base t v := hval0
  have hW' := hW
  obtain ⟨p, q, hA0, hV, rfl, hfz, hnd⟩ := hW
  have hA : DataW.TrodAll enc Try.prog W 0 (fun _ => true) true Try.f5.params.toList args.toList ds p := hA0
  rw [Try.params5] at hA hval
  obtain ⟨v0, vs0, d0, ds0, p0, q0, hargs, rfl, rfl, h0, r0⟩ := trodAll_cons hA
  obtain ⟨rfl, rfl, rfl⟩ := trodAll_nil r0
  obtain rfl : args = #[v0] := by cases args; simp_all
  obtain ⟨rfl, rfl⟩ := trodVars_none hV
  obtain ⟨a0, rfl, rfl, rfl, w0⟩ := open_int Try.underlying3 (hval 0 3 v0 rfl rfl) h0
  clear hA0 hval0
  refine (walk a0 w0 W ).mono fun e W' ⟨he, hg⟩ => ?_
  subst he
  exact ⟨_, rfl, _, _, _, [], _, [], hW', trodAll_mk1 (shut_bool Try.underlying4 _), (trodAll_cons_mk (shut_int Try.underlying3 w0) trodAll_mk0), rfl, hg.frame _, fun h => by cases h⟩

theorem over : Rows.fnExactDevNewRow.holds Try.pinned (OpenSpec.ofChange Rows.fnExactDevNewSpec) :=
  OpenClaim.holds_of_wide 5 Try.f5 rfl rfl rfl rfl rfl rfl rfl ⟨rfl, rfl, rfl, rfl, rfl⟩ rfl rfl rfl rfl rfl (by kernel_rfl) Try.func5 (by kernel_rfl)
    (of_decide_eq_true (by kernel_rfl)) (by unfold Func.isWrapper; first | (rw [if_pos (by decide +kernel)]; kernel_rfl) | (rw [if_neg (by decide +kernel)]; exact ⟨rfl, rfl⟩))
    (fun os started H enc _ => lifted os started H enc)

end Go.Proofs.Ytmoalbopbgfgdaa.fnExactDevNew

namespace Go.Proofs.Ytmoalbopbgfgdaa
theorem FnExactDevNew_holds : Rows.FnExactDevNewSaid := fnExactDevNew.over
#print axioms FnExactDevNew_holds
end Go.Proofs.Ytmoalbopbgfgdaa
