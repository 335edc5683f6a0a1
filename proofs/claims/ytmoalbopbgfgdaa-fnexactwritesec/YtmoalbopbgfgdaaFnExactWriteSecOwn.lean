/- Exact: WriteSec of the program is what the specification's is. -/
import Derived.Test.YtmoalbopbgfgdaaRows
import Derived.WalkKit
import Derived.ProofKit
import Derived.OpenShut
import Derived.ChangeOld
import Derived.Below
import Derived.OpenVars
import Derived.Stop.Joined
import Derived.Lib.SmallJoins
import Derived.Deep.RegionHeld3
import Derived.Deep.RegionHeldLaw
import Derived.Test.YtmoalbopbgfgdaaTrodDev
import Derived.Test.YtmoalbopbgfgdaaExact
import Derived.Test.YtmoalbopbgfgdaaDevWs
import Derived.Test.YtmoalbopbgfgdaaDpDev
namespace Go.Proofs.Ytmoalbopbgfgdaa.fnExactWriteSec
open Go.ChangeShapes Go.WideShapes Go.ChangeAt Go.RowKit
set_option linter.unusedVariables false

theorem own : ownKnob Try.prog.godebug = none := by kernel_rfl
theorem laidOut : laidOutB Try.prog = true := by kernel_rfl

set_option maxHeartbeats 2000000 in
theorem walk (A_x0 : Option Addr) (A_m0 A_d0 : Nat) (A_x1 : Option Addr) (A_m1 A_d1 : Nat) (p0 : DevD) (a1 : Int) (w1 : (Lit.int .i64 a1).wf = true) (x2 : Option Addr) (len2 cap2 : Nat) (p2 : List UInt8) (w : World) (h0 : RdDev w [.slice A_x0 A_m0 A_d0, .slice A_x1 A_m1 A_d1, .int .i64 p0.fuse, .bool p0.down] p0) (h2 : RdB w [.slice x2 len2 cap2] p2) :
    Calls Try.prog 8 #[.agg #[.slice A_x0 A_m0 A_d0, .slice A_x1 A_m1 A_d1, .int .i64 p0.fuse, .bool p0.down], .int .i64 a1, .slice x2 len2 cap2] w fun e w' => e = .returned (.bool true) ∧ Below w.heap.size w w' := by
  have HA0 : Hd (RdDev w [.slice A_x0 A_m0 A_d0, .slice A_x1 A_m1 A_d1, .int .i64 p0.fuse, .bool p0.down] p0) := ⟨h0⟩
  clear h0
  have HB2 : Hd (RdB w [.slice x2 len2 cap2] p2) := ⟨h2⟩
  have hlen2 : p2.length = len2 := (rdB_parts h2).2.1
  clear h2
  by_cases hb2 : 1048576 < (len2 : Int)
  · clear hlen2
    go_enter Try.func8, Try.ntmps8
    go_wp2_with fail
    go_ret
    exact ⟨rfl, below_lit w _⟩
  have HP2 : Hd (p2.length ≤ 1048576) := ⟨by omega⟩
  clear hlen2
  go_enter Try.func8, Try.ntmps8
  go_wp2_with fail
  obtain ⟨w1, hW1⟩ : ∃ W, w.alloc (.cells #[.slice A_x0 A_m0 A_d0, .slice A_x1 A_m1 A_d1, .int .i64 p0.fuse, .bool p0.down] 48) = W := ⟨_, rfl⟩
  obtain ⟨U0, hU0⟩ : ∃ U, w.heap.size + 1 = U := ⟨_, rfl⟩
  have B0 : Hd (Below w.heap.size w w1) := ⟨by rw [← hW1]; exact below_lit w _⟩
  have S0 : Hd (U0 ≤ w1.heap.size) := ⟨by rw [← hW1, ← hU0]; simp⟩
  have IV : Hd (w.heap.size + 1 = U0) := ⟨hU0⟩
  have A_0 : Hd (VR 48 RdDev (U0) w.heap.size [.slice A_x0 A_m0 A_d0, .slice A_x1 A_m1 A_d1, .int .i64 p0.fuse, .bool p0.down] (p0) w1) := ⟨by rw [← hW1, ← hU0]; exact vr_new rdDev_ok HA0.out⟩
  have Y2_0 : Hd (Lo (U0) RdB w1 [.slice x2 len2 cap2] (p2)) := ⟨lo_of (rdB_ok.below HB2.out B0.out) (by rw [← hW1, ← hU0]; simp)⟩
  rewrite [hW1]
  clear hW1 hU0 HA0 HB2
  refine (szDev_rd _ p0 1048576 _ (A_0.out.lo.rd rdDev_ok) ⟨by omega, by omega⟩).mono ?_
  rintro e w2 ⟨⟨l, rfl, hl1, hl2, hl3⟩, hB⟩
  have A_1 : Hd (VR 48 RdDev (U0) w.heap.size [.slice A_x0 A_m0 A_d0, .slice A_x1 A_m1 A_d1, .int .i64 p0.fuse, .bool p0.down] (p0) w2) := ⟨A_0.out.below (by have := S0.out; have := IV.out; omega) hB⟩
  have Y2_1 : Hd (Lo (U0) RdB w2 [.slice x2 len2 cap2] (p2)) := ⟨Y2_0.out.step (hB.mono (by have := S0.out; have := IV.out; omega))⟩
  have B1 : Hd (Below w.heap.size w w2) := ⟨Below.next B0.out hB⟩
  have S1 : Hd (U0 ≤ w2.heap.size) := ⟨Nat.le_trans S0.out hB.size⟩
  clear A_0 Y2_0 B0 S0
  clear hB
  by_cases hl0 : l < 0
  · go_wp2_with fail
    go_ret
    exact ⟨rfl, B1.out⟩
  have HP0 : Hd (wtDev p0 ≤ 1048576) := ⟨by have := hl3 (by omega); omega⟩
  clear hl1 hl2 hl3
  have hwt := writeD_wt a1 HP0.out HP2.out
  obtain ⟨r, hr⟩ : ∃ r, writeD p0 a1 p2 = r := ⟨_, rfl⟩
  rw [hr] at hwt
  have HR : Hd (writeD p0 a1 p2 = r ∧ wtDev r ≤ 1073741824 ∧ 1 + cuDev r ≤ 1073741824) := ⟨hr, hwt⟩
  clear hr hwt
  have c0 := cellsA A_1.out.box 0 rfl
  have c1 := cellsA A_1.out.box 1 rfl
  have c2 := cellsA A_1.out.box 2 rfl
  have c3 := cellsA A_1.out.box 3 rfl
  go_wp2_with fail
  clear c0 c1 c2 c3
  refine (toDev_rd _ p0 _ (A_1.out.lo.rd rdDev_ok) (by have := HP0.out; omega)).mono ?_
  rintro e w3 ⟨⟨css0, rfl, hN⟩, hB⟩
  have hT : RdDev w3 css0 p0 := by obtain ⟨F9, hE9, _⟩ := hN; exact owDev_ok.rd hE9
  clear hN
  have A_2 : Hd (VR 48 RdDev (U0) w.heap.size [.slice A_x0 A_m0 A_d0, .slice A_x1 A_m1 A_d1, .int .i64 p0.fuse, .bool p0.down] (p0) w3) := ⟨A_1.out.below (by have := S1.out; have := IV.out; omega) hB⟩
  have Y2_2 : Hd (Lo (U0) RdB w3 [.slice x2 len2 cap2] (p2)) := ⟨Y2_1.out.step (hB.mono (by have := S1.out; have := IV.out; omega))⟩
  have B2 : Hd (Below w.heap.size w w3) := ⟨Below.next B1.out hB⟩
  have S2 : Hd (U0 ≤ w3.heap.size) := ⟨Nat.le_trans S1.out hB.size⟩
  clear A_1 Y2_1 B1 S1
  clear hB
  have Ts0 : Hd (RdDev w3 css0 (p0)) := ⟨hT⟩
  clear hT
  go_wp2_with fail
  refine (toByteS_rd x2 len2 cap2 p2 _ (Y2_2.out.rd rdB_ok) (by have := HP2.out; unfold wtB; omega)).mono ?_
  rintro e w4 ⟨⟨ys2, ns2, cs2, rfl, hN⟩, hB⟩
  have hT : RdB w4 [.slice ys2 ns2 cs2] p2 := by obtain ⟨F9, hE9, _⟩ := hN; exact owB_ok.rd hE9
  clear hN
  have Ts0_b : Hd (RdDev w4 css0 (p0)) := ⟨rdDev_ok.below Ts0.out hB⟩
  clear Ts0
  have Ts0 := Ts0_b
  clear Ts0_b
  have A_3 : Hd (VR 48 RdDev (U0) w.heap.size [.slice A_x0 A_m0 A_d0, .slice A_x1 A_m1 A_d1, .int .i64 p0.fuse, .bool p0.down] (p0) w4) := ⟨A_2.out.below (by have := S2.out; have := IV.out; omega) hB⟩
  have Y2_3 : Hd (Lo (U0) RdB w4 [.slice x2 len2 cap2] (p2)) := ⟨Y2_2.out.step (hB.mono (by have := S2.out; have := IV.out; omega))⟩
  have B3 : Hd (Below w.heap.size w w4) := ⟨Below.next B2.out hB⟩
  have S3 : Hd (U0 ≤ w4.heap.size) := ⟨Nat.le_trans S2.out hB.size⟩
  clear A_2 Y2_2 B2 S2
  clear hB
  have Ts2 : Hd (RdB w4 [.slice ys2 ns2 cs2] (p2)) := ⟨hT⟩
  clear hT
  go_wp2_with fail
  obtain ⟨LW, hLW⟩ : ∃ L, w4.heap.size = L := ⟨_, rfl⟩
  have hLS : U0 ≤ LW := by rw [← hLW]; exact S3.out
  refine ((specWriteSec_rd _ p0 a1 ys2 ns2 cs2 p2 _ Ts0.out Ts2.out (by have := HP0.out; omega) (by have := HP2.out; omega))).mono ?_
  rintro e w5 ⟨⟨csr, rfl, hA⟩, hB⟩
  rw [HR.out.1] at hA
  have hA8 := hA
  simp only [RdDev] at hA8
  obtain ⟨W_x0, W_m0, W_d0, W_x1, W_m1, W_d1, rfl, _⟩ := hA8
  clear Ts0 Ts2
  have hLv : LW ≤ w5.heap.size := by rw [← hLW]; exact hB.size
  clear hLW
  have A_4 : Hd (VR 48 RdDev (U0) w.heap.size [.slice A_x0 A_m0 A_d0, .slice A_x1 A_m1 A_d1, .int .i64 p0.fuse, .bool p0.down] (p0) w5) := ⟨A_3.out.below (by have := S3.out; have := IV.out; omega) hB⟩
  have Y2_4 : Hd (Lo (U0) RdB w5 [.slice x2 len2 cap2] (p2)) := ⟨Y2_3.out.step (hB.mono (by have := S3.out; have := IV.out; omega))⟩
  have B4 : Hd (Below w.heap.size w w5) := ⟨Below.next B3.out hB⟩
  have S4 : Hd (U0 ≤ w5.heap.size) := ⟨Nat.le_trans S3.out hB.size⟩
  clear A_3 Y2_3 B3 S3
  clear hB
  obtain ⟨bW, hb9⟩ : ∃ b, w5.heap.size = b := ⟨_, rfl⟩
  obtain ⟨w6, hW9⟩ : ∃ W, w5.alloc (.cells #[.slice W_x0 W_m0 W_d0, .slice W_x1 W_m1 W_d1, .int .i64 r.fuse, .bool r.down] 27) = W := ⟨_, rfl⟩
  have hBx : Below w5.heap.size w5 w6 := by rw [← hW9]; exact below_lit _ _
  have hsz : bW + 1 ≤ w6.heap.size := by rw [← hW9, ← hb9]; simp
  have hLb : LW ≤ bW := by rw [← hb9]; exact hLv
  have hX2 : VR 27 RdDev (bW + 1) bW [.slice W_x0 W_m0 W_d0, .slice W_x1 W_m1 W_d1, .int .i64 r.fuse, .bool r.down] (r) w6 := by rw [← hW9, ← hb9]; exact vr_new rdDev_ok hA
  clear hA
  have HW9 : Hd (w5.alloc (.cells #[.slice W_x0 W_m0 W_d0, .slice W_x1 W_m1 W_d1, .int .i64 r.fuse, .bool r.down] 27) = w6 ∧ w5.heap.size = bW) := ⟨hW9, hb9⟩
  clear hW9 hb9
  have A_5 : Hd (VR 48 RdDev (U0) w.heap.size [.slice A_x0 A_m0 A_d0, .slice A_x1 A_m1 A_d1, .int .i64 p0.fuse, .bool p0.down] (p0) w6) := ⟨A_4.out.below (by have := S4.out; have := IV.out; omega) hBx⟩
  have Y2_5 : Hd (Lo (U0) RdB w6 [.slice x2 len2 cap2] (p2)) := ⟨Y2_4.out.step (hBx.mono (by have := S4.out; have := IV.out; omega))⟩
  have B5 : Hd (Below w.heap.size w w6) := ⟨Below.next B4.out hBx⟩
  have S5 : Hd (U0 ≤ w6.heap.size) := ⟨Nat.le_trans S4.out hBx.size⟩
  clear A_4 Y2_4 B4 S4
  clear hBx
  have IV2 : Hd (w.heap.size + 1 = U0 ∧ U0 ≤ LW ∧ LW ≤ bW) := ⟨by have := IV.out; omega⟩
  clear IV hLS hLb hLv
  have IV := IV2
  clear IV2
  have S6 : Hd (bW + 1 ≤ w6.heap.size) := ⟨hsz⟩
  clear S5 hsz
  have W_0 : Hd (VR 27 RdDev (bW + 1) bW [.slice W_x0 W_m0 W_d0, .slice W_x1 W_m1 W_d1, .int .i64 r.fuse, .bool r.down] (r) w6) := ⟨hX2⟩
  clear hX2
  have hW9 := HW9.out.1
  have hb9 := HW9.out.2
  have c0 := cellsA A_5.out.box 0 rfl
  have c1 := cellsA A_5.out.box 1 rfl
  have c2 := cellsA A_5.out.box 2 rfl
  have c3 := cellsA A_5.out.box 3 rfl
  go_wp2_with fail
  clear hW9 hb9 HW9 c0 c1 c2 c3
  obtain ⟨LX, hLX⟩ : ∃ L, w6.heap.size = L := ⟨_, rfl⟩
  have hLS : bW + 1 ≤ LX := by rw [← hLX]; exact S6.out
  refine (toDev_rd _ p0 _ (A_5.out.lo.rd rdDev_ok) (by have := HP0.out; omega)).mono ?_
  rintro e w7 ⟨⟨csr, rfl, hA⟩, hB⟩
  rw [hLX] at hA
  obtain ⟨F9, hE9, _⟩ := id hA
  have hA8 := hE9
  simp only [OwDev] at hA8
  obtain ⟨X_x0, X_m0, X_d0, X_x1, X_m1, X_d1, _, _, rfl, _⟩ := hA8
  clear hE9
  have hLv : LX ≤ w7.heap.size := by rw [← hLX]; exact hB.size
  clear hLX
  have A_6 : Hd (VR 48 RdDev (U0) w.heap.size [.slice A_x0 A_m0 A_d0, .slice A_x1 A_m1 A_d1, .int .i64 p0.fuse, .bool p0.down] (p0) w7) := ⟨A_5.out.below (by have := S6.out; have := IV.out; omega) hB⟩
  have Y2_6 : Hd (Lo (U0) RdB w7 [.slice x2 len2 cap2] (p2)) := ⟨Y2_5.out.step (hB.mono (by have := S6.out; have := IV.out; omega))⟩
  have W_1 : Hd (VR 27 RdDev (bW + 1) bW [.slice W_x0 W_m0 W_d0, .slice W_x1 W_m1 W_d1, .int .i64 r.fuse, .bool r.down] (r) w7) := ⟨W_0.out.below (by have := S6.out; have := IV.out; omega) hB⟩
  have B7 : Hd (Below w.heap.size w w7) := ⟨Below.next B5.out hB⟩
  have S7 : Hd (bW + 1 ≤ w7.heap.size) := ⟨Nat.le_trans S6.out hB.size⟩
  clear A_5 Y2_5 W_0 B5 S6
  clear hB
  obtain ⟨bX, hb9⟩ : ∃ b, w7.heap.size = b := ⟨_, rfl⟩
  obtain ⟨w8, hW9⟩ : ∃ W, w7.alloc (.cells #[.slice X_x0 X_m0 X_d0, .slice X_x1 X_m1 X_d1, .int .i64 p0.fuse, .bool p0.down] 27) = W := ⟨_, rfl⟩
  have hBx : Below w7.heap.size w7 w8 := by rw [← hW9]; exact below_lit _ _
  have hsz : bX + 1 ≤ w8.heap.size := by rw [← hW9, ← hb9]; simp
  have hLb : LX ≤ bX := by rw [← hb9]; exact hLv
  obtain ⟨FX, hX⟩ := vo_new (T := 27) owDev_ok hA hLv
  rw [hb9] at hX
  have hX2 : VO 27 OwDev LX (bX + 1) bX [.slice X_x0 X_m0 X_d0, .slice X_x1 X_m1 X_d1, .int .i64 p0.fuse, .bool p0.down] FX (p0) w8 := by rw [← hW9]; exact hX
  clear hX
  clear hA
  have HW9 : Hd (w7.alloc (.cells #[.slice X_x0 X_m0 X_d0, .slice X_x1 X_m1 X_d1, .int .i64 p0.fuse, .bool p0.down] 27) = w8 ∧ w7.heap.size = bX) := ⟨hW9, hb9⟩
  clear hW9 hb9
  have A_7 : Hd (VR 48 RdDev (U0) w.heap.size [.slice A_x0 A_m0 A_d0, .slice A_x1 A_m1 A_d1, .int .i64 p0.fuse, .bool p0.down] (p0) w8) := ⟨A_6.out.below (by have := S7.out; have := IV.out; omega) hBx⟩
  have Y2_7 : Hd (Lo (U0) RdB w8 [.slice x2 len2 cap2] (p2)) := ⟨Y2_6.out.step (hBx.mono (by have := S7.out; have := IV.out; omega))⟩
  have W_2 : Hd (VR 27 RdDev (bW + 1) bW [.slice W_x0 W_m0 W_d0, .slice W_x1 W_m1 W_d1, .int .i64 r.fuse, .bool r.down] (r) w8) := ⟨W_1.out.below (by have := S7.out; have := IV.out; omega) hBx⟩
  have B8 : Hd (Below w.heap.size w w8) := ⟨Below.next B7.out hBx⟩
  have S8 : Hd (bW + 1 ≤ w8.heap.size) := ⟨Nat.le_trans S7.out hBx.size⟩
  clear A_6 Y2_6 W_1 B7 S7
  clear hBx
  have IV2 : Hd (w.heap.size + 1 = U0 ∧ U0 ≤ LW ∧ LW ≤ bW ∧ bW + 1 ≤ LX ∧ LX ≤ bX) := ⟨by have := IV.out; omega⟩
  clear IV hLS hLb hLv
  have IV := IV2
  clear IV2
  have S9 : Hd (bX + 1 ≤ w8.heap.size) := ⟨hsz⟩
  clear S8 hsz
  have X_0 : Hd (VO 27 OwDev LX (bX + 1) bX [.slice X_x0 X_m0 X_d0, .slice X_x1 X_m1 X_d1, .int .i64 p0.fuse, .bool p0.down] FX (p0) w8) := ⟨hX2⟩
  clear hX2
  have hW9 := HW9.out.1
  have hb9 := HW9.out.2
  go_wp2_with fail
  clear hW9 hb9 HW9
  obtain ⟨LZ2, hLZ2⟩ : ∃ L, w8.heap.size = L := ⟨_, rfl⟩
  have hLS : bX + 1 ≤ LZ2 := by rw [← hLZ2]; exact S9.out
  refine (toByteS_rd x2 len2 cap2 p2 _ (Y2_7.out.rd rdB_ok) (by have := HP2.out; unfold wtB; omega)).mono ?_
  rintro e w9 ⟨⟨y2, n2, c2, rfl, hN⟩, hB⟩
  rw [hLZ2] at hN
  obtain ⟨FZ2, hZ⟩ := so_new owB_ok hN
  clear hN
  have hLv : LZ2 ≤ w9.heap.size := by rw [← hLZ2]; exact hB.size
  obtain ⟨EZ2, hU⟩ : ∃ U, w9.heap.size = U := ⟨_, rfl⟩
  rw [hU] at hZ hLv
  clear hLZ2
  have A_8 : Hd (VR 48 RdDev (U0) w.heap.size [.slice A_x0 A_m0 A_d0, .slice A_x1 A_m1 A_d1, .int .i64 p0.fuse, .bool p0.down] (p0) w9) := ⟨A_7.out.below (by have := S9.out; have := IV.out; omega) hB⟩
  have Y2_8 : Hd (Lo (U0) RdB w9 [.slice x2 len2 cap2] (p2)) := ⟨Y2_7.out.step (hB.mono (by have := S9.out; have := IV.out; omega))⟩
  have W_3 : Hd (VR 27 RdDev (bW + 1) bW [.slice W_x0 W_m0 W_d0, .slice W_x1 W_m1 W_d1, .int .i64 r.fuse, .bool r.down] (r) w9) := ⟨W_2.out.below (by have := S9.out; have := IV.out; omega) hB⟩
  have X_1 : Hd (VO 27 OwDev LX (bX + 1) bX [.slice X_x0 X_m0 X_d0, .slice X_x1 X_m1 X_d1, .int .i64 p0.fuse, .bool p0.down] FX (p0) w9) := ⟨X_0.out.below owDev_ok hB⟩
  have B10 : Hd (Below w.heap.size w w9) := ⟨Below.next B8.out hB⟩
  have S10 : Hd (bX + 1 ≤ w9.heap.size) := ⟨Nat.le_trans S9.out hB.size⟩
  clear A_7 Y2_7 W_2 X_0 B8 S9
  clear hB
  have IV2 : Hd (w.heap.size + 1 = U0 ∧ U0 ≤ LW ∧ LW ≤ bW ∧ bW + 1 ≤ LX ∧ LX ≤ bX ∧ bX + 1 ≤ LZ2 ∧ LZ2 ≤ EZ2) := ⟨by have := IV.out; omega⟩
  clear IV hLS hLv
  have IV := IV2
  clear IV2
  have S11 : Hd (EZ2 ≤ w9.heap.size) := ⟨by omega⟩
  clear S10 hU
  have Z2_0 : Hd (SO OwB LZ2 (EZ2) [.slice y2 n2 c2] FZ2 (p2) w9) := ⟨hZ⟩
  clear hZ
  have c0 := cellsA X_1.out.box 0 rfl
  have c1 := cellsA X_1.out.box 1 rfl
  have c2 := cellsA X_1.out.box 2 rfl
  have c3 := cellsA X_1.out.box 3 rfl
  go_wp2_with fail
  clear c0 c1 c2 c3
  obtain ⟨LG, hLG⟩ : ∃ L, w9.heap.size = L := ⟨_, rfl⟩
  have hLS : EZ2 ≤ LG := by rw [← hLG]; exact S11.out
  refine (implWriteSec_wt _ p0 a1 y2 n2 c2 p2 _ (owDev_ok.rd X_1.out.own) (owB_ok.rd Z2_0.out.own) (by have := HP0.out; omega) (by have := HP2.out; omega)).mono ?_
  rintro e w10 ⟨⟨csr, rfl, hA⟩, hB⟩
  rw [HR.out.1] at hA
  rw [hLG] at hA
  obtain ⟨F9, hE9, _⟩ := id hA
  have hA8 := hE9
  simp only [OwDev] at hA8
  obtain ⟨G_x0, G_m0, G_d0, G_x1, G_m1, G_d1, _, _, rfl, _⟩ := hA8
  clear hE9
  have hLv : LG ≤ w10.heap.size := by rw [← hLG]; exact hB.size
  clear hLG
  have A_9 : Hd (VR 48 RdDev (U0) w.heap.size [.slice A_x0 A_m0 A_d0, .slice A_x1 A_m1 A_d1, .int .i64 p0.fuse, .bool p0.down] (p0) w10) := ⟨A_8.out.below (by have := S11.out; have := IV.out; omega) hB⟩
  have Y2_9 : Hd (Lo (U0) RdB w10 [.slice x2 len2 cap2] (p2)) := ⟨Y2_8.out.step (hB.mono (by have := S11.out; have := IV.out; omega))⟩
  have W_4 : Hd (VR 27 RdDev (bW + 1) bW [.slice W_x0 W_m0 W_d0, .slice W_x1 W_m1 W_d1, .int .i64 r.fuse, .bool r.down] (r) w10) := ⟨W_3.out.below (by have := S11.out; have := IV.out; omega) hB⟩
  have X_2 : Hd (VO 27 OwDev LX (bX + 1) bX [.slice X_x0 X_m0 X_d0, .slice X_x1 X_m1 X_d1, .int .i64 p0.fuse, .bool p0.down] FX (p0) w10) := ⟨X_1.out.below owDev_ok hB⟩
  have Z2_1 : Hd (SO OwB LZ2 (EZ2) [.slice y2 n2 c2] FZ2 (p2) w10) := ⟨Z2_0.out.below owB_ok hB⟩
  have B12 : Hd (Below w.heap.size w w10) := ⟨Below.next B10.out hB⟩
  have S12 : Hd (EZ2 ≤ w10.heap.size) := ⟨Nat.le_trans S11.out hB.size⟩
  clear A_8 Y2_8 W_3 X_1 Z2_0 B10 S11
  clear hB
  obtain ⟨bG, hb9⟩ : ∃ b, w10.heap.size = b := ⟨_, rfl⟩
  obtain ⟨w11, hW9⟩ : ∃ W, w10.alloc (.cells #[.slice G_x0 G_m0 G_d0, .slice G_x1 G_m1 G_d1, .int .i64 r.fuse, .bool r.down] 27) = W := ⟨_, rfl⟩
  have hBx : Below w10.heap.size w10 w11 := by rw [← hW9]; exact below_lit _ _
  have hsz : bG + 1 ≤ w11.heap.size := by rw [← hW9, ← hb9]; simp
  have hLb : LG ≤ bG := by rw [← hb9]; exact hLv
  obtain ⟨FG, hX⟩ := vo_new (T := 27) owDev_ok hA hLv
  rw [hb9] at hX
  have hX2 : VO 27 OwDev LG (bG + 1) bG [.slice G_x0 G_m0 G_d0, .slice G_x1 G_m1 G_d1, .int .i64 r.fuse, .bool r.down] FG (r) w11 := by rw [← hW9]; exact hX
  clear hX
  clear hA
  have HW9 : Hd (w10.alloc (.cells #[.slice G_x0 G_m0 G_d0, .slice G_x1 G_m1 G_d1, .int .i64 r.fuse, .bool r.down] 27) = w11 ∧ w10.heap.size = bG) := ⟨hW9, hb9⟩
  clear hW9 hb9
  have A_10 : Hd (VR 48 RdDev (U0) w.heap.size [.slice A_x0 A_m0 A_d0, .slice A_x1 A_m1 A_d1, .int .i64 p0.fuse, .bool p0.down] (p0) w11) := ⟨A_9.out.below (by have := S12.out; have := IV.out; omega) hBx⟩
  have Y2_10 : Hd (Lo (U0) RdB w11 [.slice x2 len2 cap2] (p2)) := ⟨Y2_9.out.step (hBx.mono (by have := S12.out; have := IV.out; omega))⟩
  have W_5 : Hd (VR 27 RdDev (bW + 1) bW [.slice W_x0 W_m0 W_d0, .slice W_x1 W_m1 W_d1, .int .i64 r.fuse, .bool r.down] (r) w11) := ⟨W_4.out.below (by have := S12.out; have := IV.out; omega) hBx⟩
  have X_3 : Hd (VO 27 OwDev LX (bX + 1) bX [.slice X_x0 X_m0 X_d0, .slice X_x1 X_m1 X_d1, .int .i64 p0.fuse, .bool p0.down] FX (p0) w11) := ⟨X_2.out.below owDev_ok hBx⟩
  have Z2_2 : Hd (SO OwB LZ2 (EZ2) [.slice y2 n2 c2] FZ2 (p2) w11) := ⟨Z2_1.out.below owB_ok hBx⟩
  have B13 : Hd (Below w.heap.size w w11) := ⟨Below.next B12.out hBx⟩
  have S13 : Hd (EZ2 ≤ w11.heap.size) := ⟨Nat.le_trans S12.out hBx.size⟩
  clear A_9 Y2_9 W_4 X_2 Z2_1 B12 S12
  clear hBx
  have IV2 : Hd (w.heap.size + 1 = U0 ∧ U0 ≤ LW ∧ LW ≤ bW ∧ bW + 1 ≤ LX ∧ LX ≤ bX ∧ bX + 1 ≤ LZ2 ∧ LZ2 ≤ EZ2 ∧ EZ2 ≤ LG ∧ LG ≤ bG) := ⟨by have := IV.out; omega⟩
  clear IV hLS hLb hLv
  have IV := IV2
  clear IV2
  have S14 : Hd (bG + 1 ≤ w11.heap.size) := ⟨hsz⟩
  clear S13 hsz
  have G_0 : Hd (VO 27 OwDev LG (bG + 1) bG [.slice G_x0 G_m0 G_d0, .slice G_x1 G_m1 G_d1, .int .i64 r.fuse, .bool r.down] FG (r) w11) := ⟨hX2⟩
  clear hX2
  have hW9 := HW9.out.1
  have hb9 := HW9.out.2
  have c0 := cellsA G_0.out.box 0 rfl
  have c1 := cellsA G_0.out.box 1 rfl
  have c2 := cellsA G_0.out.box 2 rfl
  have c3 := cellsA G_0.out.box 3 rfl
  have g0 := cellsA W_5.out.box 0 rfl
  have g1 := cellsA W_5.out.box 1 rfl
  have g2 := cellsA W_5.out.box 2 rfl
  have g3 := cellsA W_5.out.box 3 rfl
  go_wp2_with fail
  clear hW9 hb9 HW9 c0 c1 c2 c3 g0 g1 g2 g3
  refine (eqDev_rd _ _ (r) _ (owDev_ok.rd G_0.out.own) (W_5.out.lo.rd rdDev_ok) (HR.out.2.1)).mono ?_
  rintro e w12 ⟨rfl, hB⟩
  have A_11 : Hd (VR 48 RdDev (U0) w.heap.size [.slice A_x0 A_m0 A_d0, .slice A_x1 A_m1 A_d1, .int .i64 p0.fuse, .bool p0.down] (p0) w12) := ⟨A_10.out.below (by have := S14.out; have := IV.out; omega) hB⟩
  have Y2_11 : Hd (Lo (U0) RdB w12 [.slice x2 len2 cap2] (p2)) := ⟨Y2_10.out.step (hB.mono (by have := S14.out; have := IV.out; omega))⟩
  have W_6 : Hd (VR 27 RdDev (bW + 1) bW [.slice W_x0 W_m0 W_d0, .slice W_x1 W_m1 W_d1, .int .i64 r.fuse, .bool r.down] (r) w12) := ⟨W_5.out.below (by have := S14.out; have := IV.out; omega) hB⟩
  have X_4 : Hd (VO 27 OwDev LX (bX + 1) bX [.slice X_x0 X_m0 X_d0, .slice X_x1 X_m1 X_d1, .int .i64 p0.fuse, .bool p0.down] FX (p0) w12) := ⟨X_3.out.below owDev_ok hB⟩
  have Z2_3 : Hd (SO OwB LZ2 (EZ2) [.slice y2 n2 c2] FZ2 (p2) w12) := ⟨Z2_2.out.below owB_ok hB⟩
  have G_1 : Hd (VO 27 OwDev LG (bG + 1) bG [.slice G_x0 G_m0 G_d0, .slice G_x1 G_m1 G_d1, .int .i64 r.fuse, .bool r.down] FG (r) w12) := ⟨G_0.out.below owDev_ok hB⟩
  have B15 : Hd (Below w.heap.size w w12) := ⟨Below.next B13.out hB⟩
  have S15 : Hd (bG + 1 ≤ w12.heap.size) := ⟨Nat.le_trans S14.out hB.size⟩
  clear A_10 Y2_10 W_5 X_3 Z2_2 G_0 B13 S14
  clear hB
  have c0 := cellsA X_4.out.box 0 rfl
  have c1 := cellsA X_4.out.box 1 rfl
  have c2 := cellsA X_4.out.box 2 rfl
  have c3 := cellsA X_4.out.box 3 rfl
  have g0 := cellsA A_11.out.box 0 rfl
  have g1 := cellsA A_11.out.box 1 rfl
  have g2 := cellsA A_11.out.box 2 rfl
  have g3 := cellsA A_11.out.box 3 rfl
  go_wp2_with fail
  clear c0 c1 c2 c3 g0 g1 g2 g3
  have KK : Hd (∀ w', Below w12.heap.size w12 w' → (w'.cell? ⟨bX, 0, none⟩ = some (.slice X_x0 X_m0 X_d0) ∧ w'.cell? ⟨bX, 1, none⟩ = some (.slice X_x1 X_m1 X_d1) ∧ w'.cell? ⟨bX, 2, none⟩ = some (.int .i64 p0.fuse) ∧ w'.cell? ⟨bX, 3, none⟩ = some (.bool p0.down) ∧ w'.cell? ⟨w.heap.size, 0, none⟩ = some (.slice A_x0 A_m0 A_d0) ∧ w'.cell? ⟨w.heap.size, 1, none⟩ = some (.slice A_x1 A_m1 A_d1) ∧ w'.cell? ⟨w.heap.size, 2, none⟩ = some (.int .i64 p0.fuse) ∧ w'.cell? ⟨w.heap.size, 3, none⟩ = some (.bool p0.down))) := ⟨fun w' hb => ⟨cell_below (cellsA X_4.out.box 0 rfl) hb, cell_below (cellsA X_4.out.box 1 rfl) hb, cell_below (cellsA X_4.out.box 2 rfl) hb, cell_below (cellsA X_4.out.box 3 rfl) hb, cell_below (cellsA A_11.out.box 0 rfl) hb, cell_below (cellsA A_11.out.box 1 rfl) hb, cell_below (cellsA A_11.out.box 2 rfl) hb, cell_below (cellsA A_11.out.box 3 rfl) hb⟩⟩
  have D0 : Hd (Below w12.heap.size w12 w12.drew) := ⟨(Below.refl _ w12).drew⟩
  have c0 := cellsA X_4.out.box 0 rfl
  have c1 := cellsA X_4.out.box 1 rfl
  have c2 := cellsA X_4.out.box 2 rfl
  have c3 := cellsA X_4.out.box 3 rfl
  have g0 := cellsA A_11.out.box 0 rfl
  have g1 := cellsA A_11.out.box 1 rfl
  have g2 := cellsA A_11.out.box 2 rfl
  have g3 := cellsA A_11.out.box 3 rfl
  go_region_held (fun w' => w'.cell? ⟨bX, 0, none⟩ = some (.slice X_x0 X_m0 X_d0) ∧ w'.cell? ⟨bX, 1, none⟩ = some (.slice X_x1 X_m1 X_d1) ∧ w'.cell? ⟨bX, 2, none⟩ = some (.int .i64 p0.fuse) ∧ w'.cell? ⟨bX, 3, none⟩ = some (.bool p0.down) ∧ w'.cell? ⟨w.heap.size, 0, none⟩ = some (.slice A_x0 A_m0 A_d0) ∧ w'.cell? ⟨w.heap.size, 1, none⟩ = some (.slice A_x1 A_m1 A_d1) ∧ w'.cell? ⟨w.heap.size, 2, none⟩ = some (.int .i64 p0.fuse) ∧ w'.cell? ⟨w.heap.size, 3, none⟩ = some (.bool p0.down)) (first | (with_reducible exact KK.out _ D2.out) | (with_reducible exact KK.out _ D1.out) | (with_reducible exact KK.out _ D0.out))
    (first | (go_at_call 31; refine (eqDev_rd _ cs9 p0 _ (rdDev_ok.below (owDev_ok.rd X_4.out.own) D1.out) R9.out (by have := HP0.out; omega)).mono ?_; rintro e w13 ⟨rfl, hB9⟩; have D2 : Hd (Below w12.heap.size w12 w13) := ⟨Below.next D1.out hB9⟩; clear hB9) | (go_at_call 35; refine (toDev_rd _ p0 _ (rdDev_ok.below (A_11.out.lo.rd rdDev_ok) D0.out) (by have := HP0.out; omega)).mono ?_; rintro e wv ⟨⟨cs9, rfl, hN9⟩, hB9⟩; have D1 : Hd (Below w12.heap.size w12 wv) := ⟨Below.next D0.out hB9⟩; have R9 : Hd (RdDev wv cs9 p0) := (⟨by obtain ⟨F9, hE9, _⟩ := hN9; exact owDev_ok.rd hE9⟩); clear hB9 hN9))
  have hB : Below w12.heap.size w12 w13 := D2.out
  clear D2 D1 D0 KK R9 c0 c1 c2 c3 g0 g1 g2 g3
  have A_12 : Hd (VR 48 RdDev (U0) w.heap.size [.slice A_x0 A_m0 A_d0, .slice A_x1 A_m1 A_d1, .int .i64 p0.fuse, .bool p0.down] (p0) w13) := ⟨A_11.out.below (by have := S15.out; have := IV.out; omega) hB⟩
  have Y2_12 : Hd (Lo (U0) RdB w13 [.slice x2 len2 cap2] (p2)) := ⟨Y2_11.out.step (hB.mono (by have := S15.out; have := IV.out; omega))⟩
  have W_7 : Hd (VR 27 RdDev (bW + 1) bW [.slice W_x0 W_m0 W_d0, .slice W_x1 W_m1 W_d1, .int .i64 r.fuse, .bool r.down] (r) w13) := ⟨W_6.out.below (by have := S15.out; have := IV.out; omega) hB⟩
  have X_5 : Hd (VO 27 OwDev LX (bX + 1) bX [.slice X_x0 X_m0 X_d0, .slice X_x1 X_m1 X_d1, .int .i64 p0.fuse, .bool p0.down] FX (p0) w13) := ⟨X_4.out.below owDev_ok hB⟩
  have Z2_4 : Hd (SO OwB LZ2 (EZ2) [.slice y2 n2 c2] FZ2 (p2) w13) := ⟨Z2_3.out.below owB_ok hB⟩
  have G_2 : Hd (VO 27 OwDev LG (bG + 1) bG [.slice G_x0 G_m0 G_d0, .slice G_x1 G_m1 G_d1, .int .i64 r.fuse, .bool r.down] FG (r) w13) := ⟨G_1.out.below owDev_ok hB⟩
  have B16 : Hd (Below w.heap.size w w13) := ⟨Below.next B15.out hB⟩
  have S16 : Hd (bG + 1 ≤ w13.heap.size) := ⟨Nat.le_trans S15.out hB.size⟩
  clear A_11 Y2_11 W_6 X_4 Z2_3 G_1 B15 S15
  clear hB
  go_wp2_with fail
  refine (toByteS_rd x2 len2 cap2 p2 _ (Y2_12.out.rd rdB_ok) (by have := HP2.out; unfold wtB; omega)).mono ?_
  rintro e w14 ⟨⟨yq2, nq2, cq2, rfl, hN⟩, hB⟩
  have hT : RdB w14 [.slice yq2 nq2 cq2] p2 := by obtain ⟨F9, hE9, _⟩ := hN; exact owB_ok.rd hE9
  clear hN
  have A_13 : Hd (VR 48 RdDev (U0) w.heap.size [.slice A_x0 A_m0 A_d0, .slice A_x1 A_m1 A_d1, .int .i64 p0.fuse, .bool p0.down] (p0) w14) := ⟨A_12.out.below (by have := S16.out; have := IV.out; omega) hB⟩
  have Y2_13 : Hd (Lo (U0) RdB w14 [.slice x2 len2 cap2] (p2)) := ⟨Y2_12.out.step (hB.mono (by have := S16.out; have := IV.out; omega))⟩
  have W_8 : Hd (VR 27 RdDev (bW + 1) bW [.slice W_x0 W_m0 W_d0, .slice W_x1 W_m1 W_d1, .int .i64 r.fuse, .bool r.down] (r) w14) := ⟨W_7.out.below (by have := S16.out; have := IV.out; omega) hB⟩
  have X_6 : Hd (VO 27 OwDev LX (bX + 1) bX [.slice X_x0 X_m0 X_d0, .slice X_x1 X_m1 X_d1, .int .i64 p0.fuse, .bool p0.down] FX (p0) w14) := ⟨X_5.out.below owDev_ok hB⟩
  have Z2_5 : Hd (SO OwB LZ2 (EZ2) [.slice y2 n2 c2] FZ2 (p2) w14) := ⟨Z2_4.out.below owB_ok hB⟩
  have G_3 : Hd (VO 27 OwDev LG (bG + 1) bG [.slice G_x0 G_m0 G_d0, .slice G_x1 G_m1 G_d1, .int .i64 r.fuse, .bool r.down] FG (r) w14) := ⟨G_2.out.below owDev_ok hB⟩
  have B17 : Hd (Below w.heap.size w w14) := ⟨Below.next B16.out hB⟩
  have S17 : Hd (bG + 1 ≤ w14.heap.size) := ⟨Nat.le_trans S16.out hB.size⟩
  clear A_12 Y2_12 W_7 X_5 Z2_4 G_2 B16 S16
  clear hB
  have Tq2 : Hd (RdB w14 [.slice yq2 nq2 cq2] (p2)) := ⟨hT⟩
  clear hT
  go_wp2_with fail
  refine (eqByteS_rd y2 n2 c2 yq2 nq2 cq2 p2 _ (owB_ok.rd Z2_5.out.own) Tq2.out (by have := HP2.out; unfold wtB; omega)).mono ?_
  rintro e w15 ⟨rfl, hB⟩
  clear Tq2
  have A_14 : Hd (VR 48 RdDev (U0) w.heap.size [.slice A_x0 A_m0 A_d0, .slice A_x1 A_m1 A_d1, .int .i64 p0.fuse, .bool p0.down] (p0) w15) := ⟨A_13.out.below (by have := S17.out; have := IV.out; omega) hB⟩
  have Y2_14 : Hd (Lo (U0) RdB w15 [.slice x2 len2 cap2] (p2)) := ⟨Y2_13.out.step (hB.mono (by have := S17.out; have := IV.out; omega))⟩
  have W_9 : Hd (VR 27 RdDev (bW + 1) bW [.slice W_x0 W_m0 W_d0, .slice W_x1 W_m1 W_d1, .int .i64 r.fuse, .bool r.down] (r) w15) := ⟨W_8.out.below (by have := S17.out; have := IV.out; omega) hB⟩
  have X_7 : Hd (VO 27 OwDev LX (bX + 1) bX [.slice X_x0 X_m0 X_d0, .slice X_x1 X_m1 X_d1, .int .i64 p0.fuse, .bool p0.down] FX (p0) w15) := ⟨X_6.out.below owDev_ok hB⟩
  have Z2_6 : Hd (SO OwB LZ2 (EZ2) [.slice y2 n2 c2] FZ2 (p2) w15) := ⟨Z2_5.out.below owB_ok hB⟩
  have G_4 : Hd (VO 27 OwDev LG (bG + 1) bG [.slice G_x0 G_m0 G_d0, .slice G_x1 G_m1 G_d1, .int .i64 r.fuse, .bool r.down] FG (r) w15) := ⟨G_3.out.below owDev_ok hB⟩
  have B18 : Hd (Below w.heap.size w w15) := ⟨Below.next B17.out hB⟩
  have S18 : Hd (bG + 1 ≤ w15.heap.size) := ⟨Nat.le_trans S17.out hB.size⟩
  clear A_13 Y2_13 W_8 X_6 Z2_5 G_3 B17 S17
  clear hB
  have c0 := cellsA X_7.out.box 0 rfl
  have c1 := cellsA X_7.out.box 1 rfl
  have c2 := cellsA X_7.out.box 2 rfl
  have c3 := cellsA X_7.out.box 3 rfl
  go_wp2_with fail
  clear c0 c1 c2 c3
  have hcu : cuDev p0 ≤ 1048576 := Nat.le_trans (cuDev_wt p0) HP0.out
  refine (markDev_ow _ FX (p0) (1) _ X_7.out.own (by omega)).mono ?_
  rintro e w16 ⟨rfl, hO, hC⟩
  have hin : ∀ x, FX x → LX ≤ x ∧ x < bX + 1 := X_7.out.in_
  have A_15 : Hd (VR 48 RdDev (U0) w.heap.size [.slice A_x0 A_m0 A_d0, .slice A_x1 A_m1 A_d1, .int .i64 p0.fuse, .bool p0.down] (p0) w16) := ⟨A_14.out.chg (by have := S18.out; have := IV.out; omega) hC (fun x hx => by have := hin x hx; have := IV.out; omega)⟩
  have Y2_15 : Hd (Lo (U0) RdB w16 [.slice x2 len2 cap2] (p2)) := ⟨Y2_14.out.step (hC.below (fun x hx => by have := hin x hx; have := IV.out; omega) (by have := S18.out; have := IV.out; omega))⟩
  have W_10 : Hd (VR 27 RdDev (bW + 1) bW [.slice W_x0 W_m0 W_d0, .slice W_x1 W_m1 W_d1, .int .i64 r.fuse, .bool r.down] (r) w16) := ⟨W_9.out.chg (by have := S18.out; have := IV.out; omega) hC (fun x hx => by have := hin x hx; have := IV.out; omega)⟩
  have X_8 : Hd (VO 27 OwDev LX (bX + 1) bX [.slice X_x0 X_m0 X_d0, .slice X_x1 X_m1 X_d1, .int .i64 p0.fuse, .bool p0.down] FX (mtDev (1) (p0)) w16) := ⟨X_7.out.marked hO hC⟩
  have Z2_7 : Hd (SO OwB LZ2 (EZ2) [.slice y2 n2 c2] FZ2 (p2) w16) := ⟨Z2_6.out.chg owB_ok hC (fun x hx => by have := hin x hx; have := IV.out; omega)⟩
  have G_5 : Hd (VO 27 OwDev LG (bG + 1) bG [.slice G_x0 G_m0 G_d0, .slice G_x1 G_m1 G_d1, .int .i64 r.fuse, .bool r.down] FG (r) w16) := ⟨G_4.out.chg owDev_ok hC (fun x hx => by have := hin x hx; have := IV.out; omega)⟩
  have B19 : Hd (Below w.heap.size w w16) := ⟨B18.out.trans (hC.below (fun x hx => by have := hin x hx; have := IV.out; omega) B18.out.size)⟩
  have S19 : Hd (bG + 1 ≤ w16.heap.size) := ⟨Nat.le_trans S18.out hC.size⟩
  clear A_14 Y2_14 W_9 X_7 Z2_6 G_4 B18 S18
  clear hin hO hC
  go_wp2_with fail
  refine (markByteS_ow y2 n2 c2 (1 + cuDev (p0)) (p2) FZ2 _ Z2_7.out.own (by have := HP2.out; unfold ctB; omega)).mono ?_
  rintro e w17 ⟨rfl, hO, hC⟩
  have hin : ∀ x, FZ2 x → LZ2 ≤ x ∧ x < EZ2 := Z2_7.out.in_
  have A_16 : Hd (VR 48 RdDev (U0) w.heap.size [.slice A_x0 A_m0 A_d0, .slice A_x1 A_m1 A_d1, .int .i64 p0.fuse, .bool p0.down] (p0) w17) := ⟨A_15.out.chg (by have := S19.out; have := IV.out; omega) hC (fun x hx => by have := hin x hx; have := IV.out; omega)⟩
  have Y2_16 : Hd (Lo (U0) RdB w17 [.slice x2 len2 cap2] (p2)) := ⟨Y2_15.out.step (hC.below (fun x hx => by have := hin x hx; have := IV.out; omega) (by have := S19.out; have := IV.out; omega))⟩
  have W_11 : Hd (VR 27 RdDev (bW + 1) bW [.slice W_x0 W_m0 W_d0, .slice W_x1 W_m1 W_d1, .int .i64 r.fuse, .bool r.down] (r) w17) := ⟨W_10.out.chg (by have := S19.out; have := IV.out; omega) hC (fun x hx => by have := hin x hx; have := IV.out; omega)⟩
  have X_9 : Hd (VO 27 OwDev LX (bX + 1) bX [.slice X_x0 X_m0 X_d0, .slice X_x1 X_m1 X_d1, .int .i64 p0.fuse, .bool p0.down] FX (mtDev (1) (p0)) w17) := ⟨X_8.out.chg owDev_ok hC (fun x hx => by have := hin x hx; have := IV.out; omega)⟩
  have Z2_8 : Hd (SO OwB LZ2 (EZ2) [.slice y2 n2 c2] FZ2 (mkB (1 + cuDev (p0)) (p2)) w17) := ⟨Z2_7.out.marked hO⟩
  have G_6 : Hd (VO 27 OwDev LG (bG + 1) bG [.slice G_x0 G_m0 G_d0, .slice G_x1 G_m1 G_d1, .int .i64 r.fuse, .bool r.down] FG (r) w17) := ⟨G_5.out.chg owDev_ok hC (fun x hx => by have := hin x hx; have := IV.out; omega)⟩
  have B20 : Hd (Below w.heap.size w w17) := ⟨B19.out.trans (hC.below (fun x hx => by have := hin x hx; have := IV.out; omega) B19.out.size)⟩
  have S20 : Hd (bG + 1 ≤ w17.heap.size) := ⟨Nat.le_trans S19.out hC.size⟩
  clear A_15 Y2_15 W_10 X_8 Z2_7 G_5 B19 S19
  clear hin hO hC
  have hk0 : ¬ (((1 + cuDev (p0) + ctB (p2) : Nat) : Int) < 0) := by omega
  clear X_9
  clear Z2_8
  have c0 := cellsA G_6.out.box 0 rfl
  have c1 := cellsA G_6.out.box 1 rfl
  have c2 := cellsA G_6.out.box 2 rfl
  have c3 := cellsA G_6.out.box 3 rfl
  have g0 := cellsA W_11.out.box 0 rfl
  have g1 := cellsA W_11.out.box 1 rfl
  have g2 := cellsA W_11.out.box 2 rfl
  have g3 := cellsA W_11.out.box 3 rfl
  go_wp2_with fail
  clear c0 c1 c2 c3 g0 g1 g2 g3
  clear hk0 hcu
  refine (eqDev_rd _ _ (r) _ (owDev_ok.rd G_6.out.own) (W_11.out.lo.rd rdDev_ok) (HR.out.2.1)).mono ?_
  rintro e w18 ⟨rfl, hB⟩
  have A_17 : Hd (VR 48 RdDev (U0) w.heap.size [.slice A_x0 A_m0 A_d0, .slice A_x1 A_m1 A_d1, .int .i64 p0.fuse, .bool p0.down] (p0) w18) := ⟨A_16.out.below (by have := S20.out; have := IV.out; omega) hB⟩
  have Y2_17 : Hd (Lo (U0) RdB w18 [.slice x2 len2 cap2] (p2)) := ⟨Y2_16.out.step (hB.mono (by have := S20.out; have := IV.out; omega))⟩
  have W_12 : Hd (VR 27 RdDev (bW + 1) bW [.slice W_x0 W_m0 W_d0, .slice W_x1 W_m1 W_d1, .int .i64 r.fuse, .bool r.down] (r) w18) := ⟨W_11.out.below (by have := S20.out; have := IV.out; omega) hB⟩
  have G_7 : Hd (VO 27 OwDev LG (bG + 1) bG [.slice G_x0 G_m0 G_d0, .slice G_x1 G_m1 G_d1, .int .i64 r.fuse, .bool r.down] FG (r) w18) := ⟨G_6.out.below owDev_ok hB⟩
  have B21 : Hd (Below w.heap.size w w18) := ⟨Below.next B20.out hB⟩
  have S21 : Hd (bG + 1 ≤ w18.heap.size) := ⟨Nat.le_trans S20.out hB.size⟩
  clear A_16 Y2_16 W_11 G_6 B20 S20
  clear hB
  have c0 := cellsA G_7.out.box 0 rfl
  have c1 := cellsA G_7.out.box 1 rfl
  have c2 := cellsA G_7.out.box 2 rfl
  have c3 := cellsA G_7.out.box 3 rfl
  go_wp2_with fail
  clear c0 c1 c2 c3
  refine (markDev_ow _ FG (r) (1) _ G_7.out.own (by exact HR.out.2.2)).mono ?_
  rintro e w19 ⟨rfl, hO, hC⟩
  have hin : ∀ x, FG x → LG ≤ x ∧ x < bG + 1 := G_7.out.in_
  have A_18 : Hd (VR 48 RdDev (U0) w.heap.size [.slice A_x0 A_m0 A_d0, .slice A_x1 A_m1 A_d1, .int .i64 p0.fuse, .bool p0.down] (p0) w19) := ⟨A_17.out.chg (by have := S21.out; have := IV.out; omega) hC (fun x hx => by have := hin x hx; have := IV.out; omega)⟩
  have Y2_18 : Hd (Lo (U0) RdB w19 [.slice x2 len2 cap2] (p2)) := ⟨Y2_17.out.step (hC.below (fun x hx => by have := hin x hx; have := IV.out; omega) (by have := S21.out; have := IV.out; omega))⟩
  have W_13 : Hd (VR 27 RdDev (bW + 1) bW [.slice W_x0 W_m0 W_d0, .slice W_x1 W_m1 W_d1, .int .i64 r.fuse, .bool r.down] (r) w19) := ⟨W_12.out.chg (by have := S21.out; have := IV.out; omega) hC (fun x hx => by have := hin x hx; have := IV.out; omega)⟩
  have G_8 : Hd (VO 27 OwDev LG (bG + 1) bG [.slice G_x0 G_m0 G_d0, .slice G_x1 G_m1 G_d1, .int .i64 r.fuse, .bool r.down] FG (mtDev (1) (r)) w19) := ⟨G_7.out.marked hO hC⟩
  have B22 : Hd (Below w.heap.size w w19) := ⟨B21.out.trans (hC.below (fun x hx => by have := hin x hx; have := IV.out; omega) B21.out.size)⟩
  have S22 : Hd (bG + 1 ≤ w19.heap.size) := ⟨Nat.le_trans S21.out hC.size⟩
  clear A_17 Y2_17 W_12 G_7 B21 S21
  clear hin hO hC
  have c0 := cellsA G_8.out.box 0 rfl
  have c1 := cellsA G_8.out.box 1 rfl
  have c2 := cellsA G_8.out.box 2 rfl
  have c3 := cellsA G_8.out.box 3 rfl
  go_wp2_with fail
  clear c0 c1 c2 c3
  refine (heldDev_rd _ (r) (1) _ (owDev_ok.rd G_8.out.own) (by exact HR.out.2.2)).mono ?_
  rintro e w20 ⟨rfl, hB⟩
  have A_19 : Hd (VR 48 RdDev (U0) w.heap.size [.slice A_x0 A_m0 A_d0, .slice A_x1 A_m1 A_d1, .int .i64 p0.fuse, .bool p0.down] (p0) w20) := ⟨A_18.out.below (by have := S22.out; have := IV.out; omega) hB⟩
  have Y2_19 : Hd (Lo (U0) RdB w20 [.slice x2 len2 cap2] (p2)) := ⟨Y2_18.out.step (hB.mono (by have := S22.out; have := IV.out; omega))⟩
  have W_14 : Hd (VR 27 RdDev (bW + 1) bW [.slice W_x0 W_m0 W_d0, .slice W_x1 W_m1 W_d1, .int .i64 r.fuse, .bool r.down] (r) w20) := ⟨W_13.out.below (by have := S22.out; have := IV.out; omega) hB⟩
  have G_9 : Hd (VO 27 OwDev LG (bG + 1) bG [.slice G_x0 G_m0 G_d0, .slice G_x1 G_m1 G_d1, .int .i64 r.fuse, .bool r.down] FG (mtDev (1) (r)) w20) := ⟨G_8.out.below owDev_ok hB⟩
  have B23 : Hd (Below w.heap.size w w20) := ⟨Below.next B22.out hB⟩
  have S23 : Hd (bG + 1 ≤ w20.heap.size) := ⟨Nat.le_trans S22.out hB.size⟩
  clear A_18 Y2_18 W_13 G_8 B22 S22
  clear hB
  have hq : ¬ (((1 + cuDev (r) : Nat) : Int) < 0) := by omega
  have hqm : (((1 + cuDev (r) : Nat) : Int) != ((1 + cuDev (r) : Nat) : Int)) = false := by simp
  have c0 := cellsA A_19.out.box 0 rfl
  have c1 := cellsA A_19.out.box 1 rfl
  have c2 := cellsA A_19.out.box 2 rfl
  have c3 := cellsA A_19.out.box 3 rfl
  go_wp2_with fail
  clear c0 c1 c2 c3
  refine (toDev_rd _ p0 _ (A_19.out.lo.rd rdDev_ok) (by have := HP0.out; omega)).mono ?_
  rintro e w21 ⟨⟨csh0, rfl, hN⟩, hB⟩
  have hT : RdDev w21 csh0 p0 := by obtain ⟨F9, hE9, _⟩ := hN; exact owDev_ok.rd hE9
  clear hN
  have A_20 : Hd (VR 48 RdDev (U0) w.heap.size [.slice A_x0 A_m0 A_d0, .slice A_x1 A_m1 A_d1, .int .i64 p0.fuse, .bool p0.down] (p0) w21) := ⟨A_19.out.below (by have := S23.out; have := IV.out; omega) hB⟩
  have Y2_20 : Hd (Lo (U0) RdB w21 [.slice x2 len2 cap2] (p2)) := ⟨Y2_19.out.step (hB.mono (by have := S23.out; have := IV.out; omega))⟩
  have W_15 : Hd (VR 27 RdDev (bW + 1) bW [.slice W_x0 W_m0 W_d0, .slice W_x1 W_m1 W_d1, .int .i64 r.fuse, .bool r.down] (r) w21) := ⟨W_14.out.below (by have := S23.out; have := IV.out; omega) hB⟩
  have G_10 : Hd (VO 27 OwDev LG (bG + 1) bG [.slice G_x0 G_m0 G_d0, .slice G_x1 G_m1 G_d1, .int .i64 r.fuse, .bool r.down] FG (mtDev (1) (r)) w21) := ⟨G_9.out.below owDev_ok hB⟩
  have B24 : Hd (Below w.heap.size w w21) := ⟨Below.next B23.out hB⟩
  have S24 : Hd (bG + 1 ≤ w21.heap.size) := ⟨Nat.le_trans S23.out hB.size⟩
  clear A_19 Y2_19 W_14 G_9 B23 S23
  clear hB
  have Th0 : Hd (RdDev w21 csh0 (p0)) := ⟨hT⟩
  clear hT
  go_wp2_with fail
  refine (toByteS_rd x2 len2 cap2 p2 _ (Y2_20.out.rd rdB_ok) (by have := HP2.out; unfold wtB; omega)).mono ?_
  rintro e w22 ⟨⟨yh2, nh2, ch2, rfl, hN⟩, hB⟩
  have hT : RdB w22 [.slice yh2 nh2 ch2] p2 := by obtain ⟨F9, hE9, _⟩ := hN; exact owB_ok.rd hE9
  clear hN
  have Th0_b : Hd (RdDev w22 csh0 (p0)) := ⟨rdDev_ok.below Th0.out hB⟩
  clear Th0
  have Th0 := Th0_b
  clear Th0_b
  have A_21 : Hd (VR 48 RdDev (U0) w.heap.size [.slice A_x0 A_m0 A_d0, .slice A_x1 A_m1 A_d1, .int .i64 p0.fuse, .bool p0.down] (p0) w22) := ⟨A_20.out.below (by have := S24.out; have := IV.out; omega) hB⟩
  have Y2_21 : Hd (Lo (U0) RdB w22 [.slice x2 len2 cap2] (p2)) := ⟨Y2_20.out.step (hB.mono (by have := S24.out; have := IV.out; omega))⟩
  have W_16 : Hd (VR 27 RdDev (bW + 1) bW [.slice W_x0 W_m0 W_d0, .slice W_x1 W_m1 W_d1, .int .i64 r.fuse, .bool r.down] (r) w22) := ⟨W_15.out.below (by have := S24.out; have := IV.out; omega) hB⟩
  have G_11 : Hd (VO 27 OwDev LG (bG + 1) bG [.slice G_x0 G_m0 G_d0, .slice G_x1 G_m1 G_d1, .int .i64 r.fuse, .bool r.down] FG (mtDev (1) (r)) w22) := ⟨G_10.out.below owDev_ok hB⟩
  have B25 : Hd (Below w.heap.size w w22) := ⟨Below.next B24.out hB⟩
  have S25 : Hd (bG + 1 ≤ w22.heap.size) := ⟨Nat.le_trans S24.out hB.size⟩
  clear A_20 Y2_20 W_15 G_10 B24 S24
  clear hB
  have Th2 : Hd (RdB w22 [.slice yh2 nh2 ch2] (p2)) := ⟨hT⟩
  clear hT
  go_wp2_with fail
  obtain ⟨LH, hLH⟩ : ∃ L, w22.heap.size = L := ⟨_, rfl⟩
  have hLS : bG + 1 ≤ LH := by rw [← hLH]; exact S25.out
  refine (implWriteSec_wt _ p0 a1 yh2 nh2 ch2 p2 _ Th0.out Th2.out (by have := HP0.out; omega) (by have := HP2.out; omega)).mono ?_
  rintro e w23 ⟨⟨csr, rfl, hA⟩, hB⟩
  rw [HR.out.1] at hA
  rw [hLH] at hA
  obtain ⟨F9, hE9, _⟩ := id hA
  have hA8 := hE9
  simp only [OwDev] at hA8
  obtain ⟨H_x0, H_m0, H_d0, H_x1, H_m1, H_d1, _, _, rfl, _⟩ := hA8
  clear hE9
  clear Th0 Th2
  have hLv : LH ≤ w23.heap.size := by rw [← hLH]; exact hB.size
  clear hLH
  have A_22 : Hd (VR 48 RdDev (U0) w.heap.size [.slice A_x0 A_m0 A_d0, .slice A_x1 A_m1 A_d1, .int .i64 p0.fuse, .bool p0.down] (p0) w23) := ⟨A_21.out.below (by have := S25.out; have := IV.out; omega) hB⟩
  have Y2_22 : Hd (Lo (U0) RdB w23 [.slice x2 len2 cap2] (p2)) := ⟨Y2_21.out.step (hB.mono (by have := S25.out; have := IV.out; omega))⟩
  have W_17 : Hd (VR 27 RdDev (bW + 1) bW [.slice W_x0 W_m0 W_d0, .slice W_x1 W_m1 W_d1, .int .i64 r.fuse, .bool r.down] (r) w23) := ⟨W_16.out.below (by have := S25.out; have := IV.out; omega) hB⟩
  have G_12 : Hd (VO 27 OwDev LG (bG + 1) bG [.slice G_x0 G_m0 G_d0, .slice G_x1 G_m1 G_d1, .int .i64 r.fuse, .bool r.down] FG (mtDev (1) (r)) w23) := ⟨G_11.out.below owDev_ok hB⟩
  have B26 : Hd (Below w.heap.size w w23) := ⟨Below.next B25.out hB⟩
  have S26 : Hd (bG + 1 ≤ w23.heap.size) := ⟨Nat.le_trans S25.out hB.size⟩
  clear A_21 Y2_21 W_16 G_11 B25 S25
  clear hB
  obtain ⟨bH, hb9⟩ : ∃ b, w23.heap.size = b := ⟨_, rfl⟩
  obtain ⟨w24, hW9⟩ : ∃ W, w23.alloc (.cells #[.slice H_x0 H_m0 H_d0, .slice H_x1 H_m1 H_d1, .int .i64 r.fuse, .bool r.down] 27) = W := ⟨_, rfl⟩
  have hBx : Below w23.heap.size w23 w24 := by rw [← hW9]; exact below_lit _ _
  have hsz : bH + 1 ≤ w24.heap.size := by rw [← hW9, ← hb9]; simp
  have hLb : LH ≤ bH := by rw [← hb9]; exact hLv
  obtain ⟨FH, hX⟩ := vo_new (T := 27) owDev_ok hA hLv
  rw [hb9] at hX
  have hX2 : VO 27 OwDev LH (bH + 1) bH [.slice H_x0 H_m0 H_d0, .slice H_x1 H_m1 H_d1, .int .i64 r.fuse, .bool r.down] FH (r) w24 := by rw [← hW9]; exact hX
  clear hX
  clear hA
  have HW9 : Hd (w23.alloc (.cells #[.slice H_x0 H_m0 H_d0, .slice H_x1 H_m1 H_d1, .int .i64 r.fuse, .bool r.down] 27) = w24 ∧ w23.heap.size = bH) := ⟨hW9, hb9⟩
  clear hW9 hb9
  have A_23 : Hd (VR 48 RdDev (U0) w.heap.size [.slice A_x0 A_m0 A_d0, .slice A_x1 A_m1 A_d1, .int .i64 p0.fuse, .bool p0.down] (p0) w24) := ⟨A_22.out.below (by have := S26.out; have := IV.out; omega) hBx⟩
  have Y2_23 : Hd (Lo (U0) RdB w24 [.slice x2 len2 cap2] (p2)) := ⟨Y2_22.out.step (hBx.mono (by have := S26.out; have := IV.out; omega))⟩
  have W_18 : Hd (VR 27 RdDev (bW + 1) bW [.slice W_x0 W_m0 W_d0, .slice W_x1 W_m1 W_d1, .int .i64 r.fuse, .bool r.down] (r) w24) := ⟨W_17.out.below (by have := S26.out; have := IV.out; omega) hBx⟩
  have G_13 : Hd (VO 27 OwDev LG (bG + 1) bG [.slice G_x0 G_m0 G_d0, .slice G_x1 G_m1 G_d1, .int .i64 r.fuse, .bool r.down] FG (mtDev (1) (r)) w24) := ⟨G_12.out.below owDev_ok hBx⟩
  have B27 : Hd (Below w.heap.size w w24) := ⟨Below.next B26.out hBx⟩
  have S27 : Hd (bG + 1 ≤ w24.heap.size) := ⟨Nat.le_trans S26.out hBx.size⟩
  clear A_22 Y2_22 W_17 G_12 B26 S26
  clear hBx
  have IV2 : Hd (w.heap.size + 1 = U0 ∧ U0 ≤ LW ∧ LW ≤ bW ∧ bW + 1 ≤ LX ∧ LX ≤ bX ∧ bX + 1 ≤ LZ2 ∧ LZ2 ≤ EZ2 ∧ EZ2 ≤ LG ∧ LG ≤ bG ∧ bG + 1 ≤ LH ∧ LH ≤ bH) := ⟨by have := IV.out; omega⟩
  clear IV hLS hLb hLv
  have IV := IV2
  clear IV2
  have S28 : Hd (bH + 1 ≤ w24.heap.size) := ⟨hsz⟩
  clear S27 hsz
  have H_0 : Hd (VO 27 OwDev LH (bH + 1) bH [.slice H_x0 H_m0 H_d0, .slice H_x1 H_m1 H_d1, .int .i64 r.fuse, .bool r.down] FH (r) w24) := ⟨hX2⟩
  clear hX2
  have hW9 := HW9.out.1
  have hb9 := HW9.out.2
  have c0 := cellsA H_0.out.box 0 rfl
  have c1 := cellsA H_0.out.box 1 rfl
  have c2 := cellsA H_0.out.box 2 rfl
  have c3 := cellsA H_0.out.box 3 rfl
  have g0 := cellsA W_18.out.box 0 rfl
  have g1 := cellsA W_18.out.box 1 rfl
  have g2 := cellsA W_18.out.box 2 rfl
  have g3 := cellsA W_18.out.box 3 rfl
  go_wp2_with fail
  clear hW9 hb9 HW9 c0 c1 c2 c3 g0 g1 g2 g3
  refine (eqDev_rd _ _ (r) _ (owDev_ok.rd H_0.out.own) (W_18.out.lo.rd rdDev_ok) (HR.out.2.1)).mono ?_
  rintro e w25 ⟨rfl, hB⟩
  have A_24 : Hd (VR 48 RdDev (U0) w.heap.size [.slice A_x0 A_m0 A_d0, .slice A_x1 A_m1 A_d1, .int .i64 p0.fuse, .bool p0.down] (p0) w25) := ⟨A_23.out.below (by have := S28.out; have := IV.out; omega) hB⟩
  have Y2_24 : Hd (Lo (U0) RdB w25 [.slice x2 len2 cap2] (p2)) := ⟨Y2_23.out.step (hB.mono (by have := S28.out; have := IV.out; omega))⟩
  have W_19 : Hd (VR 27 RdDev (bW + 1) bW [.slice W_x0 W_m0 W_d0, .slice W_x1 W_m1 W_d1, .int .i64 r.fuse, .bool r.down] (r) w25) := ⟨W_18.out.below (by have := S28.out; have := IV.out; omega) hB⟩
  have G_14 : Hd (VO 27 OwDev LG (bG + 1) bG [.slice G_x0 G_m0 G_d0, .slice G_x1 G_m1 G_d1, .int .i64 r.fuse, .bool r.down] FG (mtDev (1) (r)) w25) := ⟨G_13.out.below owDev_ok hB⟩
  have H_1 : Hd (VO 27 OwDev LH (bH + 1) bH [.slice H_x0 H_m0 H_d0, .slice H_x1 H_m1 H_d1, .int .i64 r.fuse, .bool r.down] FH (r) w25) := ⟨H_0.out.below owDev_ok hB⟩
  have B29 : Hd (Below w.heap.size w w25) := ⟨Below.next B27.out hB⟩
  have S29 : Hd (bH + 1 ≤ w25.heap.size) := ⟨Nat.le_trans S28.out hB.size⟩
  clear A_23 Y2_23 W_18 G_13 H_0 B27 S28
  clear hB
  have c0 := cellsA G_14.out.box 0 rfl
  have c1 := cellsA G_14.out.box 1 rfl
  have c2 := cellsA G_14.out.box 2 rfl
  have c3 := cellsA G_14.out.box 3 rfl
  go_wp2_with fail
  clear c0 c1 c2 c3
  clear H_1
  clear W_19
  refine (heldDev_rd _ (r) (1) _ (owDev_ok.rd G_14.out.own) (by exact HR.out.2.2)).mono ?_
  rintro e w26 ⟨rfl, hB⟩
  have A_25 : Hd (VR 48 RdDev (U0) w.heap.size [.slice A_x0 A_m0 A_d0, .slice A_x1 A_m1 A_d1, .int .i64 p0.fuse, .bool p0.down] (p0) w26) := ⟨A_24.out.below (by have := S29.out; have := IV.out; omega) hB⟩
  have Y2_25 : Hd (Lo (U0) RdB w26 [.slice x2 len2 cap2] (p2)) := ⟨Y2_24.out.step (hB.mono (by have := S29.out; have := IV.out; omega))⟩
  have G_15 : Hd (VO 27 OwDev LG (bG + 1) bG [.slice G_x0 G_m0 G_d0, .slice G_x1 G_m1 G_d1, .int .i64 r.fuse, .bool r.down] FG (mtDev (1) (r)) w26) := ⟨G_14.out.below owDev_ok hB⟩
  have B30 : Hd (Below w.heap.size w w26) := ⟨Below.next B29.out hB⟩
  have S30 : Hd (bH + 1 ≤ w26.heap.size) := ⟨Nat.le_trans S29.out hB.size⟩
  clear A_24 Y2_24 G_14 B29 S29
  clear hB
  go_wp2_with fail
  go_ret
  exact ⟨rfl, B30.out⟩

set_option maxRecDepth 100000 in
theorem lifted (os : Os) (started : os.Started) (H : Type) (enc : TypeId × Value → H) :
    ReturnsInHanded {} Try.checked os 8 .any (Rows.fnExactWriteSecSpec.pre6 enc Try.prog Try.f8 Rows.fnExactWriteSecRow.domain false) (Rows.fnExactWriteSecSpec.post enc Try.prog Try.f8 false true false false) := by
  refine returnsInHanded_of_change (C := Try.checked) own started (by kernel_rfl) Try.func8
    (ChangeSpec.witness6 (enc := enc) (C := Try.checked) false ⟨#[], #[.agg #[.slice none 0 0, .slice none 0 0, .int .i64 0, .bool false], .int .i64 0, .slice none 0 0], []⟩ 8 (by kernel_rfl) (by kernel_rfl) (by kernel_rfl) (by kernel_rfl)) ?_
  intro W base args ds gs before hval0 hW hcnd _
  have hval : ∀ (j : Nat) t v, Try.f8.params[j]? = some t → args[j]? = some v → Value.okWide Try.prog W .any base t v := hval0
  have hW' := hW
  obtain ⟨p, q, hA0, hV, rfl, hfz, hnd⟩ := hW
  have hA : DataW.TrodAll enc Try.prog W 0 (fun _ => true) true Try.f8.params.toList args.toList ds p := hA0
  rw [Try.params8] at hA hval
  obtain ⟨v0, vs0, d0, ds0, p0, q0, hargs, rfl, rfl, h0, r0⟩ := trodAll_cons hA
  obtain ⟨v1, vs1, d1, ds1, p1, q1, rfl, rfl, rfl, h1, r1⟩ := trodAll_cons r0
  obtain ⟨v2, vs2, d2, ds2, p2, q2, rfl, rfl, rfl, h2, r2⟩ := trodAll_cons r1
  obtain ⟨rfl, rfl, rfl⟩ := trodAll_nil r2
  obtain rfl : args = #[v0, v1, v2] := by cases args; simp_all
  obtain ⟨rfl, rfl⟩ := trodVars_none hV
  have k0 := h0
  have lt0 : ∀ x ∈ p0, x.block < W.heap.size := by obtain ⟨m, hm⟩ := k0; exact DataW.trod_lt m _ _ _ hm
  obtain ⟨cs0, rfl, _⟩ := okWide_struct Try.underlying48 (hval 0 48 v0 rfl rfl)
  obtain ⟨e0, g0⟩ : ∃ a, RdDev W cs0.toList a := by obtain ⟨fuel, hf⟩ := h0; exact rdDev_trod enc W 0 _ true fuel _ _ hf
  obtain ⟨A_x0, A_m0, A_d0, A_x1, A_m1, A_d1, hcs0, _⟩ := id g0
  obtain rfl : cs0 = #[.slice A_x0 A_m0 A_d0, .slice A_x1 A_m1 A_d1, .int .i64 e0.fuse, .bool e0.down] := by apply Array.toList_inj.1; rw [hcs0]
  obtain ⟨a1, rfl, rfl, rfl, w1⟩ := open_int Try.underlying3 (hval 1 3 v1 rfl rfl) h1
  have k2 := h2
  have lt2 : ∀ x ∈ p2, x.block < W.heap.size := by obtain ⟨m, hm⟩ := k2; exact DataW.trod_lt m _ _ _ hm
  obtain ⟨x2, len2, cap2, rfl⟩ := okWide_slice Try.underlying22 (hval 2 22 v2 rfl rfl)
  obtain ⟨e2, g2⟩ : ∃ a, RdB W [.slice x2 len2 cap2] a := by obtain ⟨fuel, hf⟩ := h2; exact rdB_trod' enc W 0 _ true fuel _ _ hf
  clear hA0 hval0
  refine (walk A_x0 A_m0 A_d0 A_x1 A_m1 A_d1 e0 a1 w1 x2 len2 cap2 e2 W g0 g2).mono fun e W' ⟨he, hg⟩ => ?_
  subst he
  exact ⟨_, rfl, _, _, _, [], _, [], hW', trodAll_mk1 (shut_bool Try.underlying4 _), (trodAll_cons_mk (Below.trod laidOut (by kernel_rfl) (of_decide_eq_true (by kernel_rfl)) k0 hg lt0) (trodAll_cons_mk (shut_int Try.underlying3 w1) (trodAll_cons_mk (Below.trod laidOut (by kernel_rfl) (of_decide_eq_true (by kernel_rfl)) k2 hg lt2) trodAll_mk0))), rfl, hg.frame _, fun h => by cases h⟩

theorem over : Rows.fnExactWriteSecRow.holds Try.pinned (OpenSpec.ofChange Rows.fnExactWriteSecSpec) :=
  OpenClaim.holds_of_wide 8 Try.f8 rfl rfl rfl rfl rfl rfl rfl ⟨rfl, rfl, rfl, rfl, rfl⟩ rfl rfl rfl rfl rfl (by kernel_rfl) Try.func8 (by kernel_rfl)
    (of_decide_eq_true (by kernel_rfl)) (by unfold Func.isWrapper; first | (rw [if_pos (by decide +kernel)]; kernel_rfl) | (rw [if_neg (by decide +kernel)]; exact ⟨rfl, rfl⟩))
    (fun os started H enc _ => lifted os started H enc)

end Go.Proofs.Ytmoalbopbgfgdaa.fnExactWriteSec

namespace Go.Proofs.Ytmoalbopbgfgdaa
theorem FnExactWriteSec_holds : Rows.FnExactWriteSecSaid := fnExactWriteSec.over
#print axioms FnExactWriteSec_holds
end Go.Proofs.Ytmoalbopbgfgdaa
