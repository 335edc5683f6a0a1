/- For every device and every number, FallDev answers as the specification, field by field; it writes into no argument and keeps nothing of one; its answer owns its memory, behind another call too. -/
import Derived.Test.YtbeiocngiippgaaRows
import Derived.WalkKit
import Derived.ProofKit
import Derived.OpenShut
import Derived.ChangeOld
import Derived.Below
import Derived.OpenVars
import Derived.Stop.Joined
import Derived.Lib.SmallJoins
import Derived.Deep.RegionHeld3
import Derived.Deep.RegionHeldLaw
import Derived.Test.YtbeiocngiippgaaTrodDev
import Derived.Test.YtbeiocngiippgaaExact
import Derived.Test.YtbeiocngiippgaaDevWt
import Derived.Test.YtbeiocngiippgaaDevFs
import Derived.Test.YtbeiocngiippgaaDevFa
namespace Go.Proofs.Ytbeiocngiippgaa.fnExactFallDev
open Go.ChangeShapes Go.WideShapes Go.ChangeAt Go.RowKit
set_option linter.unusedVariables false

theorem own : ownKnob Try.prog.godebug = none := by kernel_rfl
theorem laidOut : laidOutB Try.prog = true := by kernel_rfl

set_option maxHeartbeats 2000000 in
theorem walk (A_x0 : Option Addr) (A_m0 A_d0 : Nat) (A_x1 : Option Addr) (A_m1 A_d1 : Nat) (p0 : DevD) (a1 : Int) (w1 : (Lit.int .i64 a1).wf = true) (w : World) (h0 : RdDev w [.slice A_x0 A_m0 A_d0, .slice A_x1 A_m1 A_d1, .int .i64 p0.fuse, .bool p0.down] p0) :
    Calls Try.prog 5 #[.agg #[.slice A_x0 A_m0 A_d0, .slice A_x1 A_m1 A_d1, .int .i64 p0.fuse, .bool p0.down], .int .i64 a1] w fun e w' => e = .returned (.bool true) ∧ Below w.heap.size w w' := by
  have HA0 : Hd (RdDev w [.slice A_x0 A_m0 A_d0, .slice A_x1 A_m1 A_d1, .int .i64 p0.fuse, .bool p0.down] p0) := ⟨h0⟩
  clear h0
  go_enter Try.func5, Try.ntmps5
  go_wp2_with fail
  obtain ⟨w1, hW1⟩ : ∃ W, w.alloc (.cells #[.slice A_x0 A_m0 A_d0, .slice A_x1 A_m1 A_d1, .int .i64 p0.fuse, .bool p0.down] 46) = W := ⟨_, rfl⟩
  obtain ⟨U0, hU0⟩ : ∃ U, w.heap.size + 1 = U := ⟨_, rfl⟩
  have B0 : Hd (Below w.heap.size w w1) := ⟨by rw [← hW1]; exact below_lit w _⟩
  have S0 : Hd (U0 ≤ w1.heap.size) := ⟨by rw [← hW1, ← hU0]; simp⟩
  have IV : Hd (w.heap.size + 1 = U0) := ⟨hU0⟩
  have A_0 : Hd (VR 46 RdDev (U0) w.heap.size [.slice A_x0 A_m0 A_d0, .slice A_x1 A_m1 A_d1, .int .i64 p0.fuse, .bool p0.down] (p0) w1) := ⟨by rw [← hW1, ← hU0]; exact vr_new rdDev_ok HA0.out⟩
  rewrite [hW1]
  clear hW1 hU0 HA0
  refine (szDev_rd _ p0 1048576 _ (A_0.out.lo.rd rdDev_ok) ⟨by omega, by omega⟩).mono ?_
  rintro e w2 ⟨⟨l, rfl, hl1, hl2, hl3⟩, hB⟩
  have A_1 : Hd (VR 46 RdDev (U0) w.heap.size [.slice A_x0 A_m0 A_d0, .slice A_x1 A_m1 A_d1, .int .i64 p0.fuse, .bool p0.down] (p0) w2) := ⟨A_0.out.below (by have := S0.out; have := IV.out; omega) hB⟩
  have B1 : Hd (Below w.heap.size w w2) := ⟨Below.next B0.out hB⟩
  have S1 : Hd (U0 ≤ w2.heap.size) := ⟨Nat.le_trans S0.out hB.size⟩
  clear A_0 B0 S0
  clear hB
  by_cases hl0 : l < 0
  · go_wp2_with fail
    go_ret
    exact ⟨rfl, B1.out⟩
  have HP0 : Hd (wtDev p0 ≤ 1048576) := ⟨by have := hl3 (by omega); omega⟩
  clear hl1 hl2 hl3
  have hwt := fallD_wt a1 HP0.out
  obtain ⟨r, hr⟩ : ∃ r, fallD p0 a1 = r := ⟨_, rfl⟩
  rw [hr] at hwt
  have HR : Hd (fallD p0 a1 = r ∧ wtDev r ≤ 1073741824 ∧ 1 + cuDev r ≤ 1073741824) := ⟨hr, hwt⟩
  clear hr hwt
  have c0 := cellsA A_1.out.box 0 rfl
  have c1 := cellsA A_1.out.box 1 rfl
  have c2 := cellsA A_1.out.box 2 rfl
  have c3 := cellsA A_1.out.box 3 rfl
  go_wp2_with fail
  clear c0 c1 c2 c3
  refine (toDev_rd _ p0 _ (A_1.out.lo.rd rdDev_ok) (by have := HP0.out; omega)).mono ?_
  rintro e w3 ⟨⟨css0, rfl, hN⟩, hB⟩
  have hT : RdDev w3 css0 p0 := by obtain ⟨F9, hE9, _⟩ := hN; exact owDev_ok.rd hE9
  clear hN
  have A_2 : Hd (VR 46 RdDev (U0) w.heap.size [.slice A_x0 A_m0 A_d0, .slice A_x1 A_m1 A_d1, .int .i64 p0.fuse, .bool p0.down] (p0) w3) := ⟨A_1.out.below (by have := S1.out; have := IV.out; omega) hB⟩
  have B2 : Hd (Below w.heap.size w w3) := ⟨Below.next B1.out hB⟩
  have S2 : Hd (U0 ≤ w3.heap.size) := ⟨Nat.le_trans S1.out hB.size⟩
  clear A_1 B1 S1
  clear hB
  have Ts0 : Hd (RdDev w3 css0 (p0)) := ⟨hT⟩
  clear hT
  go_wp2_with fail
  obtain ⟨LW, hLW⟩ : ∃ L, w3.heap.size = L := ⟨_, rfl⟩
  have hLS : U0 ≤ LW := by rw [← hLW]; exact S2.out
  refine ((specFallDev_rd _ p0 a1 _ Ts0.out (by have := HP0.out; omega))).mono ?_
  rintro e w4 ⟨⟨csr, rfl, hA⟩, hB⟩
  rw [HR.out.1] at hA
  have hA8 := hA
  simp only [RdDev] at hA8
  obtain ⟨W_x0, W_m0, W_d0, W_x1, W_m1, W_d1, rfl, _⟩ := hA8
  clear Ts0
  have hLv : LW ≤ w4.heap.size := by rw [← hLW]; exact hB.size
  clear hLW
  have A_3 : Hd (VR 46 RdDev (U0) w.heap.size [.slice A_x0 A_m0 A_d0, .slice A_x1 A_m1 A_d1, .int .i64 p0.fuse, .bool p0.down] (p0) w4) := ⟨A_2.out.below (by have := S2.out; have := IV.out; omega) hB⟩
  have B3 : Hd (Below w.heap.size w w4) := ⟨Below.next B2.out hB⟩
  have S3 : Hd (U0 ≤ w4.heap.size) := ⟨Nat.le_trans S2.out hB.size⟩
  clear A_2 B2 S2
  clear hB
  obtain ⟨bW, hb9⟩ : ∃ b, w4.heap.size = b := ⟨_, rfl⟩
  obtain ⟨w5, hW9⟩ : ∃ W, w4.alloc (.cells #[.slice W_x0 W_m0 W_d0, .slice W_x1 W_m1 W_d1, .int .i64 r.fuse, .bool r.down] 27) = W := ⟨_, rfl⟩
  have hBx : Below w4.heap.size w4 w5 := by rw [← hW9]; exact below_lit _ _
  have hsz : bW + 1 ≤ w5.heap.size := by rw [← hW9, ← hb9]; simp
  have hLb : LW ≤ bW := by rw [← hb9]; exact hLv
  have hX2 : VR 27 RdDev (bW + 1) bW [.slice W_x0 W_m0 W_d0, .slice W_x1 W_m1 W_d1, .int .i64 r.fuse, .bool r.down] (r) w5 := by rw [← hW9, ← hb9]; exact vr_new rdDev_ok hA
  clear hA
  have HW9 : Hd (w4.alloc (.cells #[.slice W_x0 W_m0 W_d0, .slice W_x1 W_m1 W_d1, .int .i64 r.fuse, .bool r.down] 27) = w5 ∧ w4.heap.size = bW) := ⟨hW9, hb9⟩
  clear hW9 hb9
  have A_4 : Hd (VR 46 RdDev (U0) w.heap.size [.slice A_x0 A_m0 A_d0, .slice A_x1 A_m1 A_d1, .int .i64 p0.fuse, .bool p0.down] (p0) w5) := ⟨A_3.out.below (by have := S3.out; have := IV.out; omega) hBx⟩
  have B4 : Hd (Below w.heap.size w w5) := ⟨Below.next B3.out hBx⟩
  have S4 : Hd (U0 ≤ w5.heap.size) := ⟨Nat.le_trans S3.out hBx.size⟩
  clear A_3 B3 S3
  clear hBx
  have IV2 : Hd (w.heap.size + 1 = U0 ∧ U0 ≤ LW ∧ LW ≤ bW) := ⟨by have := IV.out; omega⟩
  clear IV hLS hLb hLv
  have IV := IV2
  clear IV2
  have S5 : Hd (bW + 1 ≤ w5.heap.size) := ⟨hsz⟩
  clear S4 hsz
  have W_0 : Hd (VR 27 RdDev (bW + 1) bW [.slice W_x0 W_m0 W_d0, .slice W_x1 W_m1 W_d1, .int .i64 r.fuse, .bool r.down] (r) w5) := ⟨hX2⟩
  clear hX2
  have hW9 := HW9.out.1
  have hb9 := HW9.out.2
  have c0 := cellsA A_4.out.box 0 rfl
  have c1 := cellsA A_4.out.box 1 rfl
  have c2 := cellsA A_4.out.box 2 rfl
  have c3 := cellsA A_4.out.box 3 rfl
  go_wp2_with fail
  clear hW9 hb9 HW9 c0 c1 c2 c3
  obtain ⟨LX, hLX⟩ : ∃ L, w5.heap.size = L := ⟨_, rfl⟩
  have hLS : bW + 1 ≤ LX := by rw [← hLX]; exact S5.out
  refine (toDev_rd _ p0 _ (A_4.out.lo.rd rdDev_ok) (by have := HP0.out; omega)).mono ?_
  rintro e w6 ⟨⟨csr, rfl, hA⟩, hB⟩
  rw [hLX] at hA
  obtain ⟨F9, hE9, _⟩ := id hA
  have hA8 := hE9
  simp only [OwDev] at hA8
  obtain ⟨X_x0, X_m0, X_d0, X_x1, X_m1, X_d1, _, _, rfl, _⟩ := hA8
  clear hE9
  have hLv : LX ≤ w6.heap.size := by rw [← hLX]; exact hB.size
  clear hLX
  have A_5 : Hd (VR 46 RdDev (U0) w.heap.size [.slice A_x0 A_m0 A_d0, .slice A_x1 A_m1 A_d1, .int .i64 p0.fuse, .bool p0.down] (p0) w6) := ⟨A_4.out.below (by have := S5.out; have := IV.out; omega) hB⟩
  have W_1 : Hd (VR 27 RdDev (bW + 1) bW [.slice W_x0 W_m0 W_d0, .slice W_x1 W_m1 W_d1, .int .i64 r.fuse, .bool r.down] (r) w6) := ⟨W_0.out.below (by have := S5.out; have := IV.out; omega) hB⟩
  have B6 : Hd (Below w.heap.size w w6) := ⟨Below.next B4.out hB⟩
  have S6 : Hd (bW + 1 ≤ w6.heap.size) := ⟨Nat.le_trans S5.out hB.size⟩
  clear A_4 W_0 B4 S5
  clear hB
  obtain ⟨bX, hb9⟩ : ∃ b, w6.heap.size = b := ⟨_, rfl⟩
  obtain ⟨w7, hW9⟩ : ∃ W, w6.alloc (.cells #[.slice X_x0 X_m0 X_d0, .slice X_x1 X_m1 X_d1, .int .i64 p0.fuse, .bool p0.down] 27) = W := ⟨_, rfl⟩
  have hBx : Below w6.heap.size w6 w7 := by rw [← hW9]; exact below_lit _ _
  have hsz : bX + 1 ≤ w7.heap.size := by rw [← hW9, ← hb9]; simp
  have hLb : LX ≤ bX := by rw [← hb9]; exact hLv
  obtain ⟨FX, hX⟩ := vo_new (T := 27) owDev_ok hA hLv
  rw [hb9] at hX
  have hX2 : VO 27 OwDev LX (bX + 1) bX [.slice X_x0 X_m0 X_d0, .slice X_x1 X_m1 X_d1, .int .i64 p0.fuse, .bool p0.down] FX (p0) w7 := by rw [← hW9]; exact hX
  clear hX
  clear hA
  have HW9 : Hd (w6.alloc (.cells #[.slice X_x0 X_m0 X_d0, .slice X_x1 X_m1 X_d1, .int .i64 p0.fuse, .bool p0.down] 27) = w7 ∧ w6.heap.size = bX) := ⟨hW9, hb9⟩
  clear hW9 hb9
  have A_6 : Hd (VR 46 RdDev (U0) w.heap.size [.slice A_x0 A_m0 A_d0, .slice A_x1 A_m1 A_d1, .int .i64 p0.fuse, .bool p0.down] (p0) w7) := ⟨A_5.out.below (by have := S6.out; have := IV.out; omega) hBx⟩
  have W_2 : Hd (VR 27 RdDev (bW + 1) bW [.slice W_x0 W_m0 W_d0, .slice W_x1 W_m1 W_d1, .int .i64 r.fuse, .bool r.down] (r) w7) := ⟨W_1.out.below (by have := S6.out; have := IV.out; omega) hBx⟩
  have B7 : Hd (Below w.heap.size w w7) := ⟨Below.next B6.out hBx⟩
  have S7 : Hd (bW + 1 ≤ w7.heap.size) := ⟨Nat.le_trans S6.out hBx.size⟩
  clear A_5 W_1 B6 S6
  clear hBx
  have IV2 : Hd (w.heap.size + 1 = U0 ∧ U0 ≤ LW ∧ LW ≤ bW ∧ bW + 1 ≤ LX ∧ LX ≤ bX) := ⟨by have := IV.out; omega⟩
  clear IV hLS hLb hLv
  have IV := IV2
  clear IV2
  have S8 : Hd (bX + 1 ≤ w7.heap.size) := ⟨hsz⟩
  clear S7 hsz
  have X_0 : Hd (VO 27 OwDev LX (bX + 1) bX [.slice X_x0 X_m0 X_d0, .slice X_x1 X_m1 X_d1, .int .i64 p0.fuse, .bool p0.down] FX (p0) w7) := ⟨hX2⟩
  clear hX2
  have hW9 := HW9.out.1
  have hb9 := HW9.out.2
  have c0 := cellsA X_0.out.box 0 rfl
  have c1 := cellsA X_0.out.box 1 rfl
  have c2 := cellsA X_0.out.box 2 rfl
  have c3 := cellsA X_0.out.box 3 rfl
  go_wp2_with fail
  clear hW9 hb9 HW9 c0 c1 c2 c3
  obtain ⟨LG, hLG⟩ : ∃ L, w7.heap.size = L := ⟨_, rfl⟩
  have hLS : bX + 1 ≤ LG := by rw [← hLG]; exact S8.out
  refine (implFallDev_rd _ p0 a1 _ (owDev_ok.rd X_0.out.own) (by have := HP0.out; omega)).mono ?_
  rintro e w8 ⟨⟨csr, rfl, hA⟩, hB⟩
  rw [HR.out.1] at hA
  rw [hLG] at hA
  obtain ⟨F9, hE9, _⟩ := id hA
  have hA8 := hE9
  simp only [OwDev] at hA8
  obtain ⟨G_x0, G_m0, G_d0, G_x1, G_m1, G_d1, _, _, rfl, _⟩ := hA8
  clear hE9
  have hLv : LG ≤ w8.heap.size := by rw [← hLG]; exact hB.size
  clear hLG
  have A_7 : Hd (VR 46 RdDev (U0) w.heap.size [.slice A_x0 A_m0 A_d0, .slice A_x1 A_m1 A_d1, .int .i64 p0.fuse, .bool p0.down] (p0) w8) := ⟨A_6.out.below (by have := S8.out; have := IV.out; omega) hB⟩
  have W_3 : Hd (VR 27 RdDev (bW + 1) bW [.slice W_x0 W_m0 W_d0, .slice W_x1 W_m1 W_d1, .int .i64 r.fuse, .bool r.down] (r) w8) := ⟨W_2.out.below (by have := S8.out; have := IV.out; omega) hB⟩
  have X_1 : Hd (VO 27 OwDev LX (bX + 1) bX [.slice X_x0 X_m0 X_d0, .slice X_x1 X_m1 X_d1, .int .i64 p0.fuse, .bool p0.down] FX (p0) w8) := ⟨X_0.out.below owDev_ok hB⟩
  have B9 : Hd (Below w.heap.size w w8) := ⟨Below.next B7.out hB⟩
  have S9 : Hd (bX + 1 ≤ w8.heap.size) := ⟨Nat.le_trans S8.out hB.size⟩
  clear A_6 W_2 X_0 B7 S8
  clear hB
  obtain ⟨bG, hb9⟩ : ∃ b, w8.heap.size = b := ⟨_, rfl⟩
  obtain ⟨w9, hW9⟩ : ∃ W, w8.alloc (.cells #[.slice G_x0 G_m0 G_d0, .slice G_x1 G_m1 G_d1, .int .i64 r.fuse, .bool r.down] 27) = W := ⟨_, rfl⟩
  have hBx : Below w8.heap.size w8 w9 := by rw [← hW9]; exact below_lit _ _
  have hsz : bG + 1 ≤ w9.heap.size := by rw [← hW9, ← hb9]; simp
  have hLb : LG ≤ bG := by rw [← hb9]; exact hLv
  obtain ⟨FG, hX⟩ := vo_new (T := 27) owDev_ok hA hLv
  rw [hb9] at hX
  have hX2 : VO 27 OwDev LG (bG + 1) bG [.slice G_x0 G_m0 G_d0, .slice G_x1 G_m1 G_d1, .int .i64 r.fuse, .bool r.down] FG (r) w9 := by rw [← hW9]; exact hX
  clear hX
  clear hA
  have HW9 : Hd (w8.alloc (.cells #[.slice G_x0 G_m0 G_d0, .slice G_x1 G_m1 G_d1, .int .i64 r.fuse, .bool r.down] 27) = w9 ∧ w8.heap.size = bG) := ⟨hW9, hb9⟩
  clear hW9 hb9
  have A_8 : Hd (VR 46 RdDev (U0) w.heap.size [.slice A_x0 A_m0 A_d0, .slice A_x1 A_m1 A_d1, .int .i64 p0.fuse, .bool p0.down] (p0) w9) := ⟨A_7.out.below (by have := S9.out; have := IV.out; omega) hBx⟩
  have W_4 : Hd (VR 27 RdDev (bW + 1) bW [.slice W_x0 W_m0 W_d0, .slice W_x1 W_m1 W_d1, .int .i64 r.fuse, .bool r.down] (r) w9) := ⟨W_3.out.below (by have := S9.out; have := IV.out; omega) hBx⟩
  have X_2 : Hd (VO 27 OwDev LX (bX + 1) bX [.slice X_x0 X_m0 X_d0, .slice X_x1 X_m1 X_d1, .int .i64 p0.fuse, .bool p0.down] FX (p0) w9) := ⟨X_1.out.below owDev_ok hBx⟩
  have B10 : Hd (Below w.heap.size w w9) := ⟨Below.next B9.out hBx⟩
  have S10 : Hd (bX + 1 ≤ w9.heap.size) := ⟨Nat.le_trans S9.out hBx.size⟩
  clear A_7 W_3 X_1 B9 S9
  clear hBx
  have IV2 : Hd (w.heap.size + 1 = U0 ∧ U0 ≤ LW ∧ LW ≤ bW ∧ bW + 1 ≤ LX ∧ LX ≤ bX ∧ bX + 1 ≤ LG ∧ LG ≤ bG) := ⟨by have := IV.out; omega⟩
  clear IV hLS hLb hLv
  have IV := IV2
  clear IV2
  have S11 : Hd (bG + 1 ≤ w9.heap.size) := ⟨hsz⟩
  clear S10 hsz
  have G_0 : Hd (VO 27 OwDev LG (bG + 1) bG [.slice G_x0 G_m0 G_d0, .slice G_x1 G_m1 G_d1, .int .i64 r.fuse, .bool r.down] FG (r) w9) := ⟨hX2⟩
  clear hX2
  have hW9 := HW9.out.1
  have hb9 := HW9.out.2
  have c0 := cellsA G_0.out.box 0 rfl
  have c1 := cellsA G_0.out.box 1 rfl
  have c2 := cellsA G_0.out.box 2 rfl
  have c3 := cellsA G_0.out.box 3 rfl
  have g0 := cellsA W_4.out.box 0 rfl
  have g1 := cellsA W_4.out.box 1 rfl
  have g2 := cellsA W_4.out.box 2 rfl
  have g3 := cellsA W_4.out.box 3 rfl
  go_wp2_with fail
  clear hW9 hb9 HW9 c0 c1 c2 c3 g0 g1 g2 g3
  refine (eqDev_rd _ _ (r) _ (owDev_ok.rd G_0.out.own) (W_4.out.lo.rd rdDev_ok) (HR.out.2.1)).mono ?_
  rintro e w10 ⟨rfl, hB⟩
  have A_9 : Hd (VR 46 RdDev (U0) w.heap.size [.slice A_x0 A_m0 A_d0, .slice A_x1 A_m1 A_d1, .int .i64 p0.fuse, .bool p0.down] (p0) w10) := ⟨A_8.out.below (by have := S11.out; have := IV.out; omega) hB⟩
  have W_5 : Hd (VR 27 RdDev (bW + 1) bW [.slice W_x0 W_m0 W_d0, .slice W_x1 W_m1 W_d1, .int .i64 r.fuse, .bool r.down] (r) w10) := ⟨W_4.out.below (by have := S11.out; have := IV.out; omega) hB⟩
  have X_3 : Hd (VO 27 OwDev LX (bX + 1) bX [.slice X_x0 X_m0 X_d0, .slice X_x1 X_m1 X_d1, .int .i64 p0.fuse, .bool p0.down] FX (p0) w10) := ⟨X_2.out.below owDev_ok hB⟩
  have G_1 : Hd (VO 27 OwDev LG (bG + 1) bG [.slice G_x0 G_m0 G_d0, .slice G_x1 G_m1 G_d1, .int .i64 r.fuse, .bool r.down] FG (r) w10) := ⟨G_0.out.below owDev_ok hB⟩
  have B12 : Hd (Below w.heap.size w w10) := ⟨Below.next B10.out hB⟩
  have S12 : Hd (bG + 1 ≤ w10.heap.size) := ⟨Nat.le_trans S11.out hB.size⟩
  clear A_8 W_4 X_2 G_0 B10 S11
  clear hB
  have c0 := cellsA X_3.out.box 0 rfl
  have c1 := cellsA X_3.out.box 1 rfl
  have c2 := cellsA X_3.out.box 2 rfl
  have c3 := cellsA X_3.out.box 3 rfl
  have g0 := cellsA A_9.out.box 0 rfl
  have g1 := cellsA A_9.out.box 1 rfl
  have g2 := cellsA A_9.out.box 2 rfl
  have g3 := cellsA A_9.out.box 3 rfl
  go_wp2_with fail
  clear c0 c1 c2 c3 g0 g1 g2 g3
  have KK : Hd (∀ w', Below w10.heap.size w10 w' → (w'.cell? ⟨bX, 0, none⟩ = some (.slice X_x0 X_m0 X_d0) ∧ w'.cell? ⟨bX, 1, none⟩ = some (.slice X_x1 X_m1 X_d1) ∧ w'.cell? ⟨bX, 2, none⟩ = some (.int .i64 p0.fuse) ∧ w'.cell? ⟨bX, 3, none⟩ = some (.bool p0.down) ∧ w'.cell? ⟨w.heap.size, 0, none⟩ = some (.slice A_x0 A_m0 A_d0) ∧ w'.cell? ⟨w.heap.size, 1, none⟩ = some (.slice A_x1 A_m1 A_d1) ∧ w'.cell? ⟨w.heap.size, 2, none⟩ = some (.int .i64 p0.fuse) ∧ w'.cell? ⟨w.heap.size, 3, none⟩ = some (.bool p0.down))) := ⟨fun w' hb => ⟨cell_below (cellsA X_3.out.box 0 rfl) hb, cell_below (cellsA X_3.out.box 1 rfl) hb, cell_below (cellsA X_3.out.box 2 rfl) hb, cell_below (cellsA X_3.out.box 3 rfl) hb, cell_below (cellsA A_9.out.box 0 rfl) hb, cell_below (cellsA A_9.out.box 1 rfl) hb, cell_below (cellsA A_9.out.box 2 rfl) hb, cell_below (cellsA A_9.out.box 3 rfl) hb⟩⟩
  have D0 : Hd (Below w10.heap.size w10 w10.drew) := ⟨(Below.refl _ w10).drew⟩
  have c0 := cellsA X_3.out.box 0 rfl
  have c1 := cellsA X_3.out.box 1 rfl
  have c2 := cellsA X_3.out.box 2 rfl
  have c3 := cellsA X_3.out.box 3 rfl
  have g0 := cellsA A_9.out.box 0 rfl
  have g1 := cellsA A_9.out.box 1 rfl
  have g2 := cellsA A_9.out.box 2 rfl
  have g3 := cellsA A_9.out.box 3 rfl
  go_region_held (fun w' => w'.cell? ⟨bX, 0, none⟩ = some (.slice X_x0 X_m0 X_d0) ∧ w'.cell? ⟨bX, 1, none⟩ = some (.slice X_x1 X_m1 X_d1) ∧ w'.cell? ⟨bX, 2, none⟩ = some (.int .i64 p0.fuse) ∧ w'.cell? ⟨bX, 3, none⟩ = some (.bool p0.down) ∧ w'.cell? ⟨w.heap.size, 0, none⟩ = some (.slice A_x0 A_m0 A_d0) ∧ w'.cell? ⟨w.heap.size, 1, none⟩ = some (.slice A_x1 A_m1 A_d1) ∧ w'.cell? ⟨w.heap.size, 2, none⟩ = some (.int .i64 p0.fuse) ∧ w'.cell? ⟨w.heap.size, 3, none⟩ = some (.bool p0.down)) (first | (with_reducible exact KK.out _ D2.out) | (with_reducible exact KK.out _ D1.out) | (with_reducible exact KK.out _ D0.out))
    (first | (go_at_call 30; refine (eqDev_rd _ cs9 p0 _ (rdDev_ok.below (owDev_ok.rd X_3.out.own) D1.out) R9.out (by have := HP0.out; omega)).mono ?_; rintro e w11 ⟨rfl, hB9⟩; have D2 : Hd (Below w10.heap.size w10 w11) := ⟨Below.next D1.out hB9⟩; clear hB9) | (go_at_call 29; refine (toDev_rd _ p0 _ (rdDev_ok.below (A_9.out.lo.rd rdDev_ok) D0.out) (by have := HP0.out; omega)).mono ?_; rintro e wv ⟨⟨cs9, rfl, hN9⟩, hB9⟩; have D1 : Hd (Below w10.heap.size w10 wv) := ⟨Below.next D0.out hB9⟩; have R9 : Hd (RdDev wv cs9 p0) := (⟨by obtain ⟨F9, hE9, _⟩ := hN9; exact owDev_ok.rd hE9⟩); clear hB9 hN9))
  have hB : Below w10.heap.size w10 w11 := D2.out
  clear D2 D1 D0 KK R9 c0 c1 c2 c3 g0 g1 g2 g3
  have A_10 : Hd (VR 46 RdDev (U0) w.heap.size [.slice A_x0 A_m0 A_d0, .slice A_x1 A_m1 A_d1, .int .i64 p0.fuse, .bool p0.down] (p0) w11) := ⟨A_9.out.below (by have := S12.out; have := IV.out; omega) hB⟩
  have W_6 : Hd (VR 27 RdDev (bW + 1) bW [.slice W_x0 W_m0 W_d0, .slice W_x1 W_m1 W_d1, .int .i64 r.fuse, .bool r.down] (r) w11) := ⟨W_5.out.below (by have := S12.out; have := IV.out; omega) hB⟩
  have X_4 : Hd (VO 27 OwDev LX (bX + 1) bX [.slice X_x0 X_m0 X_d0, .slice X_x1 X_m1 X_d1, .int .i64 p0.fuse, .bool p0.down] FX (p0) w11) := ⟨X_3.out.below owDev_ok hB⟩
  have G_2 : Hd (VO 27 OwDev LG (bG + 1) bG [.slice G_x0 G_m0 G_d0, .slice G_x1 G_m1 G_d1, .int .i64 r.fuse, .bool r.down] FG (r) w11) := ⟨G_1.out.below owDev_ok hB⟩
  have B13 : Hd (Below w.heap.size w w11) := ⟨Below.next B12.out hB⟩
  have S13 : Hd (bG + 1 ≤ w11.heap.size) := ⟨Nat.le_trans S12.out hB.size⟩
  clear A_9 W_5 X_3 G_1 B12 S12
  clear hB
  have c0 := cellsA X_4.out.box 0 rfl
  have c1 := cellsA X_4.out.box 1 rfl
  have c2 := cellsA X_4.out.box 2 rfl
  have c3 := cellsA X_4.out.box 3 rfl
  go_wp2_with fail
  clear c0 c1 c2 c3
  have hcu : cuDev p0 ≤ 1048576 := Nat.le_trans (cuDev_wt p0) HP0.out
  refine (markDev_ow _ FX (p0) (1) _ X_4.out.own (by omega)).mono ?_
  rintro e w12 ⟨rfl, hO, hC⟩
  have hin : ∀ x, FX x → LX ≤ x ∧ x < bX + 1 := X_4.out.in_
  have A_11 : Hd (VR 46 RdDev (U0) w.heap.size [.slice A_x0 A_m0 A_d0, .slice A_x1 A_m1 A_d1, .int .i64 p0.fuse, .bool p0.down] (p0) w12) := ⟨A_10.out.chg (by have := S13.out; have := IV.out; omega) hC (fun x hx => by have := hin x hx; have := IV.out; omega)⟩
  have W_7 : Hd (VR 27 RdDev (bW + 1) bW [.slice W_x0 W_m0 W_d0, .slice W_x1 W_m1 W_d1, .int .i64 r.fuse, .bool r.down] (r) w12) := ⟨W_6.out.chg (by have := S13.out; have := IV.out; omega) hC (fun x hx => by have := hin x hx; have := IV.out; omega)⟩
  have X_5 : Hd (VO 27 OwDev LX (bX + 1) bX [.slice X_x0 X_m0 X_d0, .slice X_x1 X_m1 X_d1, .int .i64 p0.fuse, .bool p0.down] FX (mtDev (1) (p0)) w12) := ⟨X_4.out.marked hO hC⟩
  have G_3 : Hd (VO 27 OwDev LG (bG + 1) bG [.slice G_x0 G_m0 G_d0, .slice G_x1 G_m1 G_d1, .int .i64 r.fuse, .bool r.down] FG (r) w12) := ⟨G_2.out.chg owDev_ok hC (fun x hx => by have := hin x hx; have := IV.out; omega)⟩
  have B14 : Hd (Below w.heap.size w w12) := ⟨B13.out.trans (hC.below (fun x hx => by have := hin x hx; have := IV.out; omega) B13.out.size)⟩
  have S14 : Hd (bG + 1 ≤ w12.heap.size) := ⟨Nat.le_trans S13.out hC.size⟩
  clear A_10 W_6 X_4 G_2 B13 S13
  clear hin hO hC
  have hk0 : ¬ (((1 + cuDev (p0) : Nat) : Int) < 0) := by omega
  clear X_5
  have c0 := cellsA G_3.out.box 0 rfl
  have c1 := cellsA G_3.out.box 1 rfl
  have c2 := cellsA G_3.out.box 2 rfl
  have c3 := cellsA G_3.out.box 3 rfl
  have g0 := cellsA W_7.out.box 0 rfl
  have g1 := cellsA W_7.out.box 1 rfl
  have g2 := cellsA W_7.out.box 2 rfl
  have g3 := cellsA W_7.out.box 3 rfl
  go_wp2_with fail
  clear c0 c1 c2 c3 g0 g1 g2 g3
  clear hk0 hcu
  refine (eqDev_rd _ _ (r) _ (owDev_ok.rd G_3.out.own) (W_7.out.lo.rd rdDev_ok) (HR.out.2.1)).mono ?_
  rintro e w13 ⟨rfl, hB⟩
  have A_12 : Hd (VR 46 RdDev (U0) w.heap.size [.slice A_x0 A_m0 A_d0, .slice A_x1 A_m1 A_d1, .int .i64 p0.fuse, .bool p0.down] (p0) w13) := ⟨A_11.out.below (by have := S14.out; have := IV.out; omega) hB⟩
  have W_8 : Hd (VR 27 RdDev (bW + 1) bW [.slice W_x0 W_m0 W_d0, .slice W_x1 W_m1 W_d1, .int .i64 r.fuse, .bool r.down] (r) w13) := ⟨W_7.out.below (by have := S14.out; have := IV.out; omega) hB⟩
  have G_4 : Hd (VO 27 OwDev LG (bG + 1) bG [.slice G_x0 G_m0 G_d0, .slice G_x1 G_m1 G_d1, .int .i64 r.fuse, .bool r.down] FG (r) w13) := ⟨G_3.out.below owDev_ok hB⟩
  have B15 : Hd (Below w.heap.size w w13) := ⟨Below.next B14.out hB⟩
  have S15 : Hd (bG + 1 ≤ w13.heap.size) := ⟨Nat.le_trans S14.out hB.size⟩
  clear A_11 W_7 G_3 B14 S14
  clear hB
  have c0 := cellsA G_4.out.box 0 rfl
  have c1 := cellsA G_4.out.box 1 rfl
  have c2 := cellsA G_4.out.box 2 rfl
  have c3 := cellsA G_4.out.box 3 rfl
  go_wp2_with fail
  clear c0 c1 c2 c3
  refine (markDev_ow _ FG (r) (1) _ G_4.out.own (by exact HR.out.2.2)).mono ?_
  rintro e w14 ⟨rfl, hO, hC⟩
  have hin : ∀ x, FG x → LG ≤ x ∧ x < bG + 1 := G_4.out.in_
  have A_13 : Hd (VR 46 RdDev (U0) w.heap.size [.slice A_x0 A_m0 A_d0, .slice A_x1 A_m1 A_d1, .int .i64 p0.fuse, .bool p0.down] (p0) w14) := ⟨A_12.out.chg (by have := S15.out; have := IV.out; omega) hC (fun x hx => by have := hin x hx; have := IV.out; omega)⟩
  have W_9 : Hd (VR 27 RdDev (bW + 1) bW [.slice W_x0 W_m0 W_d0, .slice W_x1 W_m1 W_d1, .int .i64 r.fuse, .bool r.down] (r) w14) := ⟨W_8.out.chg (by have := S15.out; have := IV.out; omega) hC (fun x hx => by have := hin x hx; have := IV.out; omega)⟩
  have G_5 : Hd (VO 27 OwDev LG (bG + 1) bG [.slice G_x0 G_m0 G_d0, .slice G_x1 G_m1 G_d1, .int .i64 r.fuse, .bool r.down] FG (mtDev (1) (r)) w14) := ⟨G_4.out.marked hO hC⟩
  have B16 : Hd (Below w.heap.size w w14) := ⟨B15.out.trans (hC.below (fun x hx => by have := hin x hx; have := IV.out; omega) B15.out.size)⟩
  have S16 : Hd (bG + 1 ≤ w14.heap.size) := ⟨Nat.le_trans S15.out hC.size⟩
  clear A_12 W_8 G_4 B15 S15
  clear hin hO hC
  have c0 := cellsA G_5.out.box 0 rfl
  have c1 := cellsA G_5.out.box 1 rfl
  have c2 := cellsA G_5.out.box 2 rfl
  have c3 := cellsA G_5.out.box 3 rfl
  go_wp2_with fail
  clear c0 c1 c2 c3
  refine (heldDev_rd _ (r) (1) _ (owDev_ok.rd G_5.out.own) (by exact HR.out.2.2)).mono ?_
  rintro e w15 ⟨rfl, hB⟩
  have A_14 : Hd (VR 46 RdDev (U0) w.heap.size [.slice A_x0 A_m0 A_d0, .slice A_x1 A_m1 A_d1, .int .i64 p0.fuse, .bool p0.down] (p0) w15) := ⟨A_13.out.below (by have := S16.out; have := IV.out; omega) hB⟩
  have W_10 : Hd (VR 27 RdDev (bW + 1) bW [.slice W_x0 W_m0 W_d0, .slice W_x1 W_m1 W_d1, .int .i64 r.fuse, .bool r.down] (r) w15) := ⟨W_9.out.below (by have := S16.out; have := IV.out; omega) hB⟩
  have G_6 : Hd (VO 27 OwDev LG (bG + 1) bG [.slice G_x0 G_m0 G_d0, .slice G_x1 G_m1 G_d1, .int .i64 r.fuse, .bool r.down] FG (mtDev (1) (r)) w15) := ⟨G_5.out.below owDev_ok hB⟩
  have B17 : Hd (Below w.heap.size w w15) := ⟨Below.next B16.out hB⟩
  have S17 : Hd (bG + 1 ≤ w15.heap.size) := ⟨Nat.le_trans S16.out hB.size⟩
  clear A_13 W_9 G_5 B16 S16
  clear hB
  have hq : ¬ (((1 + cuDev (r) : Nat) : Int) < 0) := by omega
  have hqm : (((1 + cuDev (r) : Nat) : Int) != ((1 + cuDev (r) : Nat) : Int)) = false := by simp
  have c0 := cellsA A_14.out.box 0 rfl
  have c1 := cellsA A_14.out.box 1 rfl
  have c2 := cellsA A_14.out.box 2 rfl
  have c3 := cellsA A_14.out.box 3 rfl
  go_wp2_with fail
  clear c0 c1 c2 c3
  refine (toDev_rd _ p0 _ (A_14.out.lo.rd rdDev_ok) (by have := HP0.out; omega)).mono ?_
  rintro e w16 ⟨⟨csh0, rfl, hN⟩, hB⟩
  have hT : RdDev w16 csh0 p0 := by obtain ⟨F9, hE9, _⟩ := hN; exact owDev_ok.rd hE9
  clear hN
  have A_15 : Hd (VR 46 RdDev (U0) w.heap.size [.slice A_x0 A_m0 A_d0, .slice A_x1 A_m1 A_d1, .int .i64 p0.fuse, .bool p0.down] (p0) w16) := ⟨A_14.out.below (by have := S17.out; have := IV.out; omega) hB⟩
  have W_11 : Hd (VR 27 RdDev (bW + 1) bW [.slice W_x0 W_m0 W_d0, .slice W_x1 W_m1 W_d1, .int .i64 r.fuse, .bool r.down] (r) w16) := ⟨W_10.out.below (by have := S17.out; have := IV.out; omega) hB⟩
  have G_7 : Hd (VO 27 OwDev LG (bG + 1) bG [.slice G_x0 G_m0 G_d0, .slice G_x1 G_m1 G_d1, .int .i64 r.fuse, .bool r.down] FG (mtDev (1) (r)) w16) := ⟨G_6.out.below owDev_ok hB⟩
  have B18 : Hd (Below w.heap.size w w16) := ⟨Below.next B17.out hB⟩
  have S18 : Hd (bG + 1 ≤ w16.heap.size) := ⟨Nat.le_trans S17.out hB.size⟩
  clear A_14 W_10 G_6 B17 S17
  clear hB
  have Th0 : Hd (RdDev w16 csh0 (p0)) := ⟨hT⟩
  clear hT
  go_wp2_with fail
  obtain ⟨LH, hLH⟩ : ∃ L, w16.heap.size = L := ⟨_, rfl⟩
  have hLS : bG + 1 ≤ LH := by rw [← hLH]; exact S18.out
  refine (implFallDev_rd _ p0 a1 _ Th0.out (by have := HP0.out; omega)).mono ?_
  rintro e w17 ⟨⟨csr, rfl, hA⟩, hB⟩
  rw [HR.out.1] at hA
  rw [hLH] at hA
  obtain ⟨F9, hE9, _⟩ := id hA
  have hA8 := hE9
  simp only [OwDev] at hA8
  obtain ⟨H_x0, H_m0, H_d0, H_x1, H_m1, H_d1, _, _, rfl, _⟩ := hA8
  clear hE9
  clear Th0
  have hLv : LH ≤ w17.heap.size := by rw [← hLH]; exact hB.size
  clear hLH
  have A_16 : Hd (VR 46 RdDev (U0) w.heap.size [.slice A_x0 A_m0 A_d0, .slice A_x1 A_m1 A_d1, .int .i64 p0.fuse, .bool p0.down] (p0) w17) := ⟨A_15.out.below (by have := S18.out; have := IV.out; omega) hB⟩
  have W_12 : Hd (VR 27 RdDev (bW + 1) bW [.slice W_x0 W_m0 W_d0, .slice W_x1 W_m1 W_d1, .int .i64 r.fuse, .bool r.down] (r) w17) := ⟨W_11.out.below (by have := S18.out; have := IV.out; omega) hB⟩
  have G_8 : Hd (VO 27 OwDev LG (bG + 1) bG [.slice G_x0 G_m0 G_d0, .slice G_x1 G_m1 G_d1, .int .i64 r.fuse, .bool r.down] FG (mtDev (1) (r)) w17) := ⟨G_7.out.below owDev_ok hB⟩
  have B19 : Hd (Below w.heap.size w w17) := ⟨Below.next B18.out hB⟩
  have S19 : Hd (bG + 1 ≤ w17.heap.size) := ⟨Nat.le_trans S18.out hB.size⟩
  clear A_15 W_11 G_7 B18 S18
  clear hB
  obtain ⟨bH, hb9⟩ : ∃ b, w17.heap.size = b := ⟨_, rfl⟩
  obtain ⟨w18, hW9⟩ : ∃ W, w17.alloc (.cells #[.slice H_x0 H_m0 H_d0, .slice H_x1 H_m1 H_d1, .int .i64 r.fuse, .bool r.down] 27) = W := ⟨_, rfl⟩
  have hBx : Below w17.heap.size w17 w18 := by rw [← hW9]; exact below_lit _ _
  have hsz : bH + 1 ≤ w18.heap.size := by rw [← hW9, ← hb9]; simp
  have hLb : LH ≤ bH := by rw [← hb9]; exact hLv
  obtain ⟨FH, hX⟩ := vo_new (T := 27) owDev_ok hA hLv
  rw [hb9] at hX
  have hX2 : VO 27 OwDev LH (bH + 1) bH [.slice H_x0 H_m0 H_d0, .slice H_x1 H_m1 H_d1, .int .i64 r.fuse, .bool r.down] FH (r) w18 := by rw [← hW9]; exact hX
  clear hX
  clear hA
  have HW9 : Hd (w17.alloc (.cells #[.slice H_x0 H_m0 H_d0, .slice H_x1 H_m1 H_d1, .int .i64 r.fuse, .bool r.down] 27) = w18 ∧ w17.heap.size = bH) := ⟨hW9, hb9⟩
  clear hW9 hb9
  have A_17 : Hd (VR 46 RdDev (U0) w.heap.size [.slice A_x0 A_m0 A_d0, .slice A_x1 A_m1 A_d1, .int .i64 p0.fuse, .bool p0.down] (p0) w18) := ⟨A_16.out.below (by have := S19.out; have := IV.out; omega) hBx⟩
  have W_13 : Hd (VR 27 RdDev (bW + 1) bW [.slice W_x0 W_m0 W_d0, .slice W_x1 W_m1 W_d1, .int .i64 r.fuse, .bool r.down] (r) w18) := ⟨W_12.out.below (by have := S19.out; have := IV.out; omega) hBx⟩
  have G_9 : Hd (VO 27 OwDev LG (bG + 1) bG [.slice G_x0 G_m0 G_d0, .slice G_x1 G_m1 G_d1, .int .i64 r.fuse, .bool r.down] FG (mtDev (1) (r)) w18) := ⟨G_8.out.below owDev_ok hBx⟩
  have B20 : Hd (Below w.heap.size w w18) := ⟨Below.next B19.out hBx⟩
  have S20 : Hd (bG + 1 ≤ w18.heap.size) := ⟨Nat.le_trans S19.out hBx.size⟩
  clear A_16 W_12 G_8 B19 S19
  clear hBx
  have IV2 : Hd (w.heap.size + 1 = U0 ∧ U0 ≤ LW ∧ LW ≤ bW ∧ bW + 1 ≤ LX ∧ LX ≤ bX ∧ bX + 1 ≤ LG ∧ LG ≤ bG ∧ bG + 1 ≤ LH ∧ LH ≤ bH) := ⟨by have := IV.out; omega⟩
  clear IV hLS hLb hLv
  have IV := IV2
  clear IV2
  have S21 : Hd (bH + 1 ≤ w18.heap.size) := ⟨hsz⟩
  clear S20 hsz
  have H_0 : Hd (VO 27 OwDev LH (bH + 1) bH [.slice H_x0 H_m0 H_d0, .slice H_x1 H_m1 H_d1, .int .i64 r.fuse, .bool r.down] FH (r) w18) := ⟨hX2⟩
  clear hX2
  have hW9 := HW9.out.1
  have hb9 := HW9.out.2
  have c0 := cellsA H_0.out.box 0 rfl
  have c1 := cellsA H_0.out.box 1 rfl
  have c2 := cellsA H_0.out.box 2 rfl
  have c3 := cellsA H_0.out.box 3 rfl
  have g0 := cellsA W_13.out.box 0 rfl
  have g1 := cellsA W_13.out.box 1 rfl
  have g2 := cellsA W_13.out.box 2 rfl
  have g3 := cellsA W_13.out.box 3 rfl
  go_wp2_with fail
  clear hW9 hb9 HW9 c0 c1 c2 c3 g0 g1 g2 g3
  refine (eqDev_rd _ _ (r) _ (owDev_ok.rd H_0.out.own) (W_13.out.lo.rd rdDev_ok) (HR.out.2.1)).mono ?_
  rintro e w19 ⟨rfl, hB⟩
  have A_18 : Hd (VR 46 RdDev (U0) w.heap.size [.slice A_x0 A_m0 A_d0, .slice A_x1 A_m1 A_d1, .int .i64 p0.fuse, .bool p0.down] (p0) w19) := ⟨A_17.out.below (by have := S21.out; have := IV.out; omega) hB⟩
  have W_14 : Hd (VR 27 RdDev (bW + 1) bW [.slice W_x0 W_m0 W_d0, .slice W_x1 W_m1 W_d1, .int .i64 r.fuse, .bool r.down] (r) w19) := ⟨W_13.out.below (by have := S21.out; have := IV.out; omega) hB⟩
  have G_10 : Hd (VO 27 OwDev LG (bG + 1) bG [.slice G_x0 G_m0 G_d0, .slice G_x1 G_m1 G_d1, .int .i64 r.fuse, .bool r.down] FG (mtDev (1) (r)) w19) := ⟨G_9.out.below owDev_ok hB⟩
  have H_1 : Hd (VO 27 OwDev LH (bH + 1) bH [.slice H_x0 H_m0 H_d0, .slice H_x1 H_m1 H_d1, .int .i64 r.fuse, .bool r.down] FH (r) w19) := ⟨H_0.out.below owDev_ok hB⟩
  have B22 : Hd (Below w.heap.size w w19) := ⟨Below.next B20.out hB⟩
  have S22 : Hd (bH + 1 ≤ w19.heap.size) := ⟨Nat.le_trans S21.out hB.size⟩
  clear A_17 W_13 G_9 H_0 B20 S21
  clear hB
  have c0 := cellsA G_10.out.box 0 rfl
  have c1 := cellsA G_10.out.box 1 rfl
  have c2 := cellsA G_10.out.box 2 rfl
  have c3 := cellsA G_10.out.box 3 rfl
  go_wp2_with fail
  clear c0 c1 c2 c3
  clear H_1
  clear W_14
  refine (heldDev_rd _ (r) (1) _ (owDev_ok.rd G_10.out.own) (by exact HR.out.2.2)).mono ?_
  rintro e w20 ⟨rfl, hB⟩
  have A_19 : Hd (VR 46 RdDev (U0) w.heap.size [.slice A_x0 A_m0 A_d0, .slice A_x1 A_m1 A_d1, .int .i64 p0.fuse, .bool p0.down] (p0) w20) := ⟨A_18.out.below (by have := S22.out; have := IV.out; omega) hB⟩
  have G_11 : Hd (VO 27 OwDev LG (bG + 1) bG [.slice G_x0 G_m0 G_d0, .slice G_x1 G_m1 G_d1, .int .i64 r.fuse, .bool r.down] FG (mtDev (1) (r)) w20) := ⟨G_10.out.below owDev_ok hB⟩
  have B23 : Hd (Below w.heap.size w w20) := ⟨Below.next B22.out hB⟩
  have S23 : Hd (bH + 1 ≤ w20.heap.size) := ⟨Nat.le_trans S22.out hB.size⟩
  clear A_18 G_10 B22 S22
  clear hB
  go_wp2_with fail
  go_ret
  exact ⟨rfl, B23.out⟩

set_option maxRecDepth 100000 in
theorem lifted (os : Os) (started : os.Started) (H : Type) (enc : TypeId × Value → H) :
    ReturnsInHanded {} Try.checked os 5 .any (Rows.fnExactFallDevSpec.pre6 enc Try.prog Try.f5 Rows.fnExactFallDevRow.domain false) (Rows.fnExactFallDevSpec.post enc Try.prog Try.f5 false true false false) := by
  refine returnsInHanded_of_change (C := Try.checked) own started (by kernel_rfl) Try.func5
    (ChangeSpec.witness6 (enc := enc) (C := Try.checked) false ⟨#[], #[.agg #[.slice none 0 0, .slice none 0 0, .int .i64 0, .bool false], .int .i64 0], []⟩ 8 (by kernel_rfl) (by kernel_rfl) (by kernel_rfl) (by kernel_rfl)) ?_
  intro W base args ds gs before hval0 hW hcnd _
  have hval : ∀ (j : Nat) t v, Try.f5.params[j]? = some t → args[j]? = some v → Value.okWide Try.prog W .any base t v := hval0
  have hW' := hW
  obtain ⟨p, q, hA0, hV, rfl, hfz, hnd⟩ := hW
  have hA : DataW.TrodAll enc Try.prog W 0 (fun _ => true) true Try.f5.params.toList args.toList ds p := hA0
  rw [Try.params5] at hA hval
  obtain ⟨v0, vs0, d0, ds0, p0, q0, hargs, rfl, rfl, h0, r0⟩ := trodAll_cons hA
  obtain ⟨v1, vs1, d1, ds1, p1, q1, rfl, rfl, rfl, h1, r1⟩ := trodAll_cons r0
  obtain ⟨rfl, rfl, rfl⟩ := trodAll_nil r1
  obtain rfl : args = #[v0, v1] := by cases args; simp_all
  obtain ⟨rfl, rfl⟩ := trodVars_none hV
  have k0 := h0
  have lt0 : ∀ x ∈ p0, x.block < W.heap.size := by obtain ⟨m, hm⟩ := k0; exact DataW.trod_lt m _ _ _ hm
  obtain ⟨cs0, rfl, _⟩ := okWide_struct Try.underlying46 (hval 0 46 v0 rfl rfl)
  obtain ⟨e0, g0⟩ : ∃ a, RdDev W cs0.toList a := by obtain ⟨fuel, hf⟩ := h0; exact rdDev_trod enc W 0 _ true fuel _ _ hf
  obtain ⟨A_x0, A_m0, A_d0, A_x1, A_m1, A_d1, hcs0, _⟩ := id g0
  obtain rfl : cs0 = #[.slice A_x0 A_m0 A_d0, .slice A_x1 A_m1 A_d1, .int .i64 e0.fuse, .bool e0.down] := by apply Array.toList_inj.1; rw [hcs0]
  obtain ⟨a1, rfl, rfl, rfl, w1⟩ := open_int Try.underlying3 (hval 1 3 v1 rfl rfl) h1
  clear hA0 hval0
  refine (walk A_x0 A_m0 A_d0 A_x1 A_m1 A_d1 e0 a1 w1 W g0).mono fun e W' ⟨he, hg⟩ => ?_
  subst he
  exact ⟨_, rfl, _, _, _, [], _, [], hW', trodAll_mk1 (shut_bool Try.underlying4 _), (trodAll_cons_mk (Below.trod laidOut (by kernel_rfl) (of_decide_eq_true (by kernel_rfl)) k0 hg lt0) (trodAll_cons_mk (shut_int Try.underlying3 w1) trodAll_mk0)), rfl, hg.frame _, fun h => by cases h⟩

theorem over : Rows.fnExactFallDevRow.holds Try.pinned (OpenSpec.ofChange Rows.fnExactFallDevSpec) :=
  OpenClaim.holds_of_wide 5 Try.f5 rfl rfl rfl rfl rfl rfl rfl ⟨rfl, rfl, rfl, rfl, rfl⟩ rfl rfl rfl rfl rfl (by kernel_rfl) Try.func5 (by kernel_rfl)
    (of_decide_eq_true (by kernel_rfl)) (by unfold Func.isWrapper; first | (rw [if_pos (by decide +kernel)]; kernel_rfl) | (rw [if_neg (by decide +kernel)]; exact ⟨rfl, rfl⟩))
    (fun os started H enc _ => lifted os started H enc)

end Go.Proofs.Ytbeiocngiippgaa.fnExactFallDev

namespace Go.Proofs.Ytbeiocngiippgaa
theorem FnExactFallDev_holds : Rows.FnExactFallDevSaid := fnExactFallDev.over
#print axioms FnExactFallDev_holds
end Go.Proofs.Ytbeiocngiippgaa
