/- RecsOf answers the records of a tab as its model does, changes nothing that it is given, and its answer owns its memory. -/
import Derived.Test.YtlididoalekeoaaRows
import Derived.WalkKit
import Derived.ProofKit
import Derived.OpenShut
import Derived.ShutString
import Derived.ChangeOld
import Derived.Below
import Derived.OpenVars
import Derived.Stop.Joined
import Derived.Lib.SmallJoins
import Derived.Deep.RegionHeld3
import Derived.Deep.RegionHeldLaw
import Derived.Test.YtlididoalekeoaaMxRecsOf8
import Derived.Test.YtlididoalekeoaaMxRecsOf12
import Derived.Test.YtlididoalekeoaaMxRecsOf13
import Derived.Test.YtlididoalekeoaaMxRecsOf16
namespace Go.Proofs.Ytlididoalekeoaa.fnExactRecsOf
open Go.ChangeShapes Go.WideShapes Go.ChangeAt Go.RowKit
set_option linter.unusedVariables false

theorem own : ownKnob Try.prog.godebug = none := by kernel_rfl
theorem laidOut : laidOutB Try.prog = true := by kernel_rfl

set_option maxHeartbeats 2000000 in
theorem walk (A_x0 : Option Addr) (A_m0 A_d0 : Nat) (A_x2 : Option Addr) (A_m2 A_d2 : Nat) (p0 : TabD) (w : World) (h0 : RdTab w [.slice A_x0 A_m0 A_d0, .int .i64 p0.phase, .slice A_x2 A_m2 A_d2] p0) :
    Calls Try.prog 6 #[.agg #[.slice A_x0 A_m0 A_d0, .int .i64 p0.phase, .slice A_x2 A_m2 A_d2]] w fun e w' => e = .returned (.bool true) ∧ Below w.heap.size w w' := by
  have HA0 : Hd (RdTab w [.slice A_x0 A_m0 A_d0, .int .i64 p0.phase, .slice A_x2 A_m2 A_d2] p0) := ⟨h0⟩
  clear h0
  go_enter Try.func6, Try.ntmps6
  go_wp2_with fail
  obtain ⟨w1, hW1⟩ : ∃ W, w.alloc (.cells #[.slice A_x0 A_m0 A_d0, .int .i64 p0.phase, .slice A_x2 A_m2 A_d2] 36) = W := ⟨_, rfl⟩
  obtain ⟨U0, hU0⟩ : ∃ U, w.heap.size + 1 = U := ⟨_, rfl⟩
  have B0 : Hd (Below w.heap.size w w1) := ⟨by rw [← hW1]; exact below_lit w _⟩
  have S0 : Hd (U0 ≤ w1.heap.size) := ⟨by rw [← hW1, ← hU0]; simp⟩
  have IV : Hd (w.heap.size + 1 = U0) := ⟨hU0⟩
  have A_0 : Hd (VR 36 RdTab (U0) w.heap.size [.slice A_x0 A_m0 A_d0, .int .i64 p0.phase, .slice A_x2 A_m2 A_d2] (p0) w1) := ⟨by rw [← hW1, ← hU0]; exact vr_new rdTab_ok HA0.out⟩
  rewrite [hW1]
  clear hW1 hU0 HA0
  refine (szTab_rd _ p0 1048576 _ (A_0.out.lo.rd rdTab_ok) ⟨by omega, by omega⟩).mono ?_
  rintro e w2 ⟨⟨l, rfl, hl1, hl2, hl3⟩, hB⟩
  have A_1 : Hd (VR 36 RdTab (U0) w.heap.size [.slice A_x0 A_m0 A_d0, .int .i64 p0.phase, .slice A_x2 A_m2 A_d2] (p0) w2) := ⟨A_0.out.below (by have := S0.out; have := IV.out; omega) hB⟩
  have B1 : Hd (Below w.heap.size w w2) := ⟨Below.next B0.out hB⟩
  have S1 : Hd (U0 ≤ w2.heap.size) := ⟨Nat.le_trans S0.out hB.size⟩
  clear A_0 B0 S0
  clear hB
  by_cases hl0 : l < 0
  · go_wp2_with fail
    go_ret
    exact ⟨rfl, B1.out⟩
  have HP0 : Hd (wtTab p0 ≤ 1048576) := ⟨by have := hl3 (by omega); omega⟩
  clear hl1 hl2 hl3
  have hwt := partsL_wt HP0.out
  obtain ⟨r, hr⟩ : ∃ r, partsL p0 = r := ⟨_, rfl⟩
  rw [hr] at hwt
  have HR : Hd (partsL p0 = r ∧ wtRecS r ≤ 1073741824 ∧ 1 + ctRecS r ≤ 1073741824) := ⟨hr, hwt⟩
  clear hr hwt
  have c0 := cellsA A_1.out.box 0 rfl
  have c1 := cellsA A_1.out.box 1 rfl
  have c2 := cellsA A_1.out.box 2 rfl
  go_wp2_with fail
  clear c0 c1 c2
  refine (toTab_rd _ p0 _ (A_1.out.lo.rd rdTab_ok) (by have := HP0.out; omega)).mono ?_
  rintro e w3 ⟨⟨css0, rfl, hN⟩, hB⟩
  have hT : RcTab w3 css0 p0 := by obtain ⟨F9, hE9, _⟩ := hN; exact owTab_ok.rd hE9
  clear hN
  have A_2 : Hd (VR 36 RdTab (U0) w.heap.size [.slice A_x0 A_m0 A_d0, .int .i64 p0.phase, .slice A_x2 A_m2 A_d2] (p0) w3) := ⟨A_1.out.below (by have := S1.out; have := IV.out; omega) hB⟩
  have B2 : Hd (Below w.heap.size w w3) := ⟨Below.next B1.out hB⟩
  have S2 : Hd (U0 ≤ w3.heap.size) := ⟨Nat.le_trans S1.out hB.size⟩
  clear A_1 B1 S1
  clear hB
  have Ts0 : Hd (RcTab w3 css0 (p0)) := ⟨hT⟩
  clear hT
  go_wp2_with fail
  obtain ⟨LW, hLW⟩ : ∃ L, w3.heap.size = L := ⟨_, rfl⟩
  have hLS : U0 ≤ LW := by rw [← hLW]; exact S2.out
  refine ((specRecsOf_ow _ p0 _ Ts0.out (by have := HP0.out; omega))).mono ?_
  rintro e w4 ⟨⟨yW, nW, cW, rfl, hA⟩, hB⟩
  rw [HR.out.1] at hA
  clear Ts0
  obtain ⟨F9, hE9, _⟩ := hA
  have hA := rcRecS_w (owRecS_ok.rd hE9)
  clear hE9
  have hLv : LW ≤ w4.heap.size := by rw [← hLW]; exact hB.size
  obtain ⟨EW, hU⟩ : ∃ U, w4.heap.size = U := ⟨_, rfl⟩
  have hZ : Lo (EW) RdRecS w4 [.slice yW nW cW] (r) := lo_of hA (Nat.le_of_eq hU)
  clear hA
  rw [hU] at hLv
  clear hLW
  have A_3 : Hd (VR 36 RdTab (U0) w.heap.size [.slice A_x0 A_m0 A_d0, .int .i64 p0.phase, .slice A_x2 A_m2 A_d2] (p0) w4) := ⟨A_2.out.below (by have := S2.out; have := IV.out; omega) hB⟩
  have B3 : Hd (Below w.heap.size w w4) := ⟨Below.next B2.out hB⟩
  have S3 : Hd (U0 ≤ w4.heap.size) := ⟨Nat.le_trans S2.out hB.size⟩
  clear A_2 B2 S2
  clear hB
  have IV2 : Hd (w.heap.size + 1 = U0 ∧ U0 ≤ LW ∧ LW ≤ EW) := ⟨by have := IV.out; omega⟩
  clear IV hLS hLv
  have IV := IV2
  clear IV2
  have S4 : Hd (EW ≤ w4.heap.size) := ⟨by omega⟩
  clear S3 hU
  have W_0 : Hd (Lo (EW) RdRecS w4 [.slice yW nW cW] (r)) := ⟨hZ⟩
  clear hZ
  have c0 := cellsA A_3.out.box 0 rfl
  have c1 := cellsA A_3.out.box 1 rfl
  have c2 := cellsA A_3.out.box 2 rfl
  go_wp2_with fail
  clear c0 c1 c2
  obtain ⟨LX, hLX⟩ : ∃ L, w4.heap.size = L := ⟨_, rfl⟩
  have hLS : EW ≤ LX := by rw [← hLX]; exact S4.out
  refine (toTab_rd _ p0 _ (A_3.out.lo.rd rdTab_ok) (by have := HP0.out; omega)).mono ?_
  rintro e w5 ⟨⟨csr, rfl, hA⟩, hB⟩
  rw [hLX] at hA
  obtain ⟨F9, hE9, _⟩ := id hA
  have hA8 := hE9
  simp only [OwTab] at hA8
  obtain ⟨X_x0, X_m0, X_d0, X_x2, X_m2, X_d2, _, _, rfl, _⟩ := hA8
  clear hE9
  have hLv : LX ≤ w5.heap.size := by rw [← hLX]; exact hB.size
  clear hLX
  have A_4 : Hd (VR 36 RdTab (U0) w.heap.size [.slice A_x0 A_m0 A_d0, .int .i64 p0.phase, .slice A_x2 A_m2 A_d2] (p0) w5) := ⟨A_3.out.below (by have := S4.out; have := IV.out; omega) hB⟩
  have W_1 : Hd (Lo (EW) RdRecS w5 [.slice yW nW cW] (r)) := ⟨W_0.out.step (hB.mono (by have := S4.out; have := IV.out; omega))⟩
  have B5 : Hd (Below w.heap.size w w5) := ⟨Below.next B3.out hB⟩
  have S5 : Hd (EW ≤ w5.heap.size) := ⟨Nat.le_trans S4.out hB.size⟩
  clear A_3 W_0 B3 S4
  clear hB
  obtain ⟨bX, hb9⟩ : ∃ b, w5.heap.size = b := ⟨_, rfl⟩
  obtain ⟨w6, hW9⟩ : ∃ W, w5.alloc (.cells #[.slice X_x0 X_m0 X_d0, .int .i64 p0.phase, .slice X_x2 X_m2 X_d2] 43) = W := ⟨_, rfl⟩
  have hBx : Below w5.heap.size w5 w6 := by rw [← hW9]; exact below_lit _ _
  have hsz : bX + 1 ≤ w6.heap.size := by rw [← hW9, ← hb9]; simp
  have hLb : LX ≤ bX := by rw [← hb9]; exact hLv
  obtain ⟨FX, hX⟩ := vo_new (T := 43) owTab_ok hA hLv
  rw [hb9] at hX
  have hX2 : VO 43 OwTab LX (bX + 1) bX [.slice X_x0 X_m0 X_d0, .int .i64 p0.phase, .slice X_x2 X_m2 X_d2] FX (p0) w6 := by rw [← hW9]; exact hX
  clear hX
  clear hA
  have HW9 : Hd (w5.alloc (.cells #[.slice X_x0 X_m0 X_d0, .int .i64 p0.phase, .slice X_x2 X_m2 X_d2] 43) = w6 ∧ w5.heap.size = bX) := ⟨hW9, hb9⟩
  clear hW9 hb9
  have A_5 : Hd (VR 36 RdTab (U0) w.heap.size [.slice A_x0 A_m0 A_d0, .int .i64 p0.phase, .slice A_x2 A_m2 A_d2] (p0) w6) := ⟨A_4.out.below (by have := S5.out; have := IV.out; omega) hBx⟩
  have W_2 : Hd (Lo (EW) RdRecS w6 [.slice yW nW cW] (r)) := ⟨W_1.out.step (hBx.mono (by have := S5.out; have := IV.out; omega))⟩
  have B6 : Hd (Below w.heap.size w w6) := ⟨Below.next B5.out hBx⟩
  have S6 : Hd (EW ≤ w6.heap.size) := ⟨Nat.le_trans S5.out hBx.size⟩
  clear A_4 W_1 B5 S5
  clear hBx
  have IV2 : Hd (w.heap.size + 1 = U0 ∧ U0 ≤ LW ∧ LW ≤ EW ∧ EW ≤ LX ∧ LX ≤ bX) := ⟨by have := IV.out; omega⟩
  clear IV hLS hLb hLv
  have IV := IV2
  clear IV2
  have S7 : Hd (bX + 1 ≤ w6.heap.size) := ⟨hsz⟩
  clear S6 hsz
  have X_0 : Hd (VO 43 OwTab LX (bX + 1) bX [.slice X_x0 X_m0 X_d0, .int .i64 p0.phase, .slice X_x2 X_m2 X_d2] FX (p0) w6) := ⟨hX2⟩
  clear hX2
  have hW9 := HW9.out.1
  have hb9 := HW9.out.2
  have c0 := cellsA X_0.out.box 0 rfl
  have c1 := cellsA X_0.out.box 1 rfl
  have c2 := cellsA X_0.out.box 2 rfl
  go_wp2_with fail
  clear hW9 hb9 HW9 c0 c1 c2
  obtain ⟨LG, hLG⟩ : ∃ L, w6.heap.size = L := ⟨_, rfl⟩
  have hLS : bX + 1 ≤ LG := by rw [← hLG]; exact S7.out
  refine (implRecsOf_ow _ p0 _ (owTab_ok.rd X_0.out.own) (by have := HP0.out; omega)).mono ?_
  rintro e w7 ⟨⟨yG, nG, cG, rfl, hA⟩, hB⟩
  rw [HR.out.1] at hA
  have hLv : LG ≤ w7.heap.size := by rw [← hLG]; exact hB.size
  rw [hLG] at hA
  obtain ⟨FG, hZ⟩ := so_new owRecS_ok hA
  clear hA
  obtain ⟨EG, hU⟩ : ∃ U, w7.heap.size = U := ⟨_, rfl⟩
  rw [hU] at hZ
  rw [hU] at hLv
  clear hLG
  have A_6 : Hd (VR 36 RdTab (U0) w.heap.size [.slice A_x0 A_m0 A_d0, .int .i64 p0.phase, .slice A_x2 A_m2 A_d2] (p0) w7) := ⟨A_5.out.below (by have := S7.out; have := IV.out; omega) hB⟩
  have W_3 : Hd (Lo (EW) RdRecS w7 [.slice yW nW cW] (r)) := ⟨W_2.out.step (hB.mono (by have := S7.out; have := IV.out; omega))⟩
  have X_1 : Hd (VO 43 OwTab LX (bX + 1) bX [.slice X_x0 X_m0 X_d0, .int .i64 p0.phase, .slice X_x2 X_m2 X_d2] FX (p0) w7) := ⟨X_0.out.below owTab_ok hB⟩
  have B8 : Hd (Below w.heap.size w w7) := ⟨Below.next B6.out hB⟩
  have S8 : Hd (bX + 1 ≤ w7.heap.size) := ⟨Nat.le_trans S7.out hB.size⟩
  clear A_5 W_2 X_0 B6 S7
  clear hB
  have IV2 : Hd (w.heap.size + 1 = U0 ∧ U0 ≤ LW ∧ LW ≤ EW ∧ EW ≤ LX ∧ LX ≤ bX ∧ bX + 1 ≤ LG ∧ LG ≤ EG) := ⟨by have := IV.out; omega⟩
  clear IV hLS hLv
  have IV := IV2
  clear IV2
  have S9 : Hd (EG ≤ w7.heap.size) := ⟨by omega⟩
  clear S8 hU
  have G_0 : Hd (SO OwRecS LG (EG) [.slice yG nG cG] FG (r) w7) := ⟨hZ⟩
  clear hZ
  go_wp2_with fail
  refine (eqRecS_rd yG nG cG yW nW cW (r) _ (rcRecS_w (owRecS_ok.rd G_0.out.own)) (W_3.out.rd rdRecS_ok) (HR.out.2.1)).mono ?_
  rintro e w8 ⟨rfl, hB⟩
  have A_7 : Hd (VR 36 RdTab (U0) w.heap.size [.slice A_x0 A_m0 A_d0, .int .i64 p0.phase, .slice A_x2 A_m2 A_d2] (p0) w8) := ⟨A_6.out.below (by have := S9.out; have := IV.out; omega) hB⟩
  have W_4 : Hd (Lo (EW) RdRecS w8 [.slice yW nW cW] (r)) := ⟨W_3.out.step (hB.mono (by have := S9.out; have := IV.out; omega))⟩
  have X_2 : Hd (VO 43 OwTab LX (bX + 1) bX [.slice X_x0 X_m0 X_d0, .int .i64 p0.phase, .slice X_x2 X_m2 X_d2] FX (p0) w8) := ⟨X_1.out.below owTab_ok hB⟩
  have G_1 : Hd (SO OwRecS LG (EG) [.slice yG nG cG] FG (r) w8) := ⟨G_0.out.below owRecS_ok hB⟩
  have B10 : Hd (Below w.heap.size w w8) := ⟨Below.next B8.out hB⟩
  have S10 : Hd (EG ≤ w8.heap.size) := ⟨Nat.le_trans S9.out hB.size⟩
  clear A_6 W_3 X_1 G_0 B8 S9
  clear hB
  have c0 := cellsA X_2.out.box 0 rfl
  have c1 := cellsA X_2.out.box 1 rfl
  have c2 := cellsA X_2.out.box 2 rfl
  have g0 := cellsA A_7.out.box 0 rfl
  have g1 := cellsA A_7.out.box 1 rfl
  have g2 := cellsA A_7.out.box 2 rfl
  go_wp2_with fail
  clear c0 c1 c2 g0 g1 g2
  have KK : Hd (∀ w', Below w8.heap.size w8 w' → (w'.cell? ⟨bX, 0, none⟩ = some (.slice X_x0 X_m0 X_d0) ∧ w'.cell? ⟨bX, 1, none⟩ = some (.int .i64 p0.phase) ∧ w'.cell? ⟨bX, 2, none⟩ = some (.slice X_x2 X_m2 X_d2) ∧ w'.cell? ⟨w.heap.size, 0, none⟩ = some (.slice A_x0 A_m0 A_d0) ∧ w'.cell? ⟨w.heap.size, 1, none⟩ = some (.int .i64 p0.phase) ∧ w'.cell? ⟨w.heap.size, 2, none⟩ = some (.slice A_x2 A_m2 A_d2))) := ⟨fun w' hb => ⟨cell_below (cellsA X_2.out.box 0 rfl) hb, cell_below (cellsA X_2.out.box 1 rfl) hb, cell_below (cellsA X_2.out.box 2 rfl) hb, cell_below (cellsA A_7.out.box 0 rfl) hb, cell_below (cellsA A_7.out.box 1 rfl) hb, cell_below (cellsA A_7.out.box 2 rfl) hb⟩⟩
  have D0 : Hd (Below w8.heap.size w8 w8.drew) := ⟨(Below.refl _ w8).drew⟩
  have c0 := cellsA X_2.out.box 0 rfl
  have c1 := cellsA X_2.out.box 1 rfl
  have c2 := cellsA X_2.out.box 2 rfl
  have g0 := cellsA A_7.out.box 0 rfl
  have g1 := cellsA A_7.out.box 1 rfl
  have g2 := cellsA A_7.out.box 2 rfl
  go_region_held (fun w' => w'.cell? ⟨bX, 0, none⟩ = some (.slice X_x0 X_m0 X_d0) ∧ w'.cell? ⟨bX, 1, none⟩ = some (.int .i64 p0.phase) ∧ w'.cell? ⟨bX, 2, none⟩ = some (.slice X_x2 X_m2 X_d2) ∧ w'.cell? ⟨w.heap.size, 0, none⟩ = some (.slice A_x0 A_m0 A_d0) ∧ w'.cell? ⟨w.heap.size, 1, none⟩ = some (.int .i64 p0.phase) ∧ w'.cell? ⟨w.heap.size, 2, none⟩ = some (.slice A_x2 A_m2 A_d2)) (first | (with_reducible exact KK.out _ D2.out) | (with_reducible exact KK.out _ D1.out) | (with_reducible exact KK.out _ D0.out))
    (first | (go_at_call 25; refine (eqTab_rd _ cs9 p0 _ (rdTab_ok.below (rcTab_w (owTab_ok.rd X_2.out.own)) D1.out) R9.out (by have := HP0.out; omega)).mono ?_; rintro e w9 ⟨rfl, hB9⟩; have D2 : Hd (Below w8.heap.size w8 w9) := ⟨Below.next D1.out hB9⟩; clear hB9) | (go_at_call 22; refine (toTab_rd _ p0 _ (rdTab_ok.below (A_7.out.lo.rd rdTab_ok) D0.out) (by have := HP0.out; omega)).mono ?_; rintro e wv ⟨⟨cs9, rfl, hN9⟩, hB9⟩; have D1 : Hd (Below w8.heap.size w8 wv) := ⟨Below.next D0.out hB9⟩; have R9 : Hd (RdTab wv cs9 p0) := (⟨by obtain ⟨F9, hE9, _⟩ := hN9; exact rcTab_w (owTab_ok.rd hE9)⟩); clear hB9 hN9))
  have hB : Below w8.heap.size w8 w9 := D2.out
  clear D2 D1 D0 KK R9 c0 c1 c2 g0 g1 g2
  have A_8 : Hd (VR 36 RdTab (U0) w.heap.size [.slice A_x0 A_m0 A_d0, .int .i64 p0.phase, .slice A_x2 A_m2 A_d2] (p0) w9) := ⟨A_7.out.below (by have := S10.out; have := IV.out; omega) hB⟩
  have W_5 : Hd (Lo (EW) RdRecS w9 [.slice yW nW cW] (r)) := ⟨W_4.out.step (hB.mono (by have := S10.out; have := IV.out; omega))⟩
  have X_3 : Hd (VO 43 OwTab LX (bX + 1) bX [.slice X_x0 X_m0 X_d0, .int .i64 p0.phase, .slice X_x2 X_m2 X_d2] FX (p0) w9) := ⟨X_2.out.below owTab_ok hB⟩
  have G_2 : Hd (SO OwRecS LG (EG) [.slice yG nG cG] FG (r) w9) := ⟨G_1.out.below owRecS_ok hB⟩
  have B11 : Hd (Below w.heap.size w w9) := ⟨Below.next B10.out hB⟩
  have S11 : Hd (EG ≤ w9.heap.size) := ⟨Nat.le_trans S10.out hB.size⟩
  clear A_7 W_4 X_2 G_1 B10 S10
  clear hB
  have c0 := cellsA X_3.out.box 0 rfl
  have c1 := cellsA X_3.out.box 1 rfl
  have c2 := cellsA X_3.out.box 2 rfl
  go_wp2_with fail
  clear c0 c1 c2
  have hcu : cuTab p0 ≤ 16777216 := Nat.le_trans (cuTab_wt p0) (by have := HP0.out; omega)
  refine (markTab_ow _ FX (p0) (1) _ X_3.out.own (by have := HP0.out; first | omega | (unfold ctB; omega)) (by omega)).mono ?_
  rintro e w10 ⟨rfl, hO, hC⟩
  have hin : ∀ x, FX x → LX ≤ x ∧ x < bX + 1 := X_3.out.in_
  have A_9 : Hd (VR 36 RdTab (U0) w.heap.size [.slice A_x0 A_m0 A_d0, .int .i64 p0.phase, .slice A_x2 A_m2 A_d2] (p0) w10) := ⟨A_8.out.chg (by have := S11.out; have := IV.out; omega) hC (fun x hx => by have := hin x hx; have := IV.out; omega)⟩
  have W_6 : Hd (Lo (EW) RdRecS w10 [.slice yW nW cW] (r)) := ⟨W_5.out.step (hC.below (fun x hx => by have := hin x hx; have := IV.out; omega) (by have := S11.out; have := IV.out; omega))⟩
  have X_4 : Hd (VO 43 OwTab LX (bX + 1) bX [.slice X_x0 X_m0 X_d0, .int .i64 p0.phase, .slice X_x2 X_m2 X_d2] FX (mtTab (1) (p0)) w10) := ⟨X_3.out.marked hO hC⟩
  have G_3 : Hd (SO OwRecS LG (EG) [.slice yG nG cG] FG (r) w10) := ⟨G_2.out.chg owRecS_ok hC (fun x hx => by have := hin x hx; have := IV.out; omega)⟩
  have B12 : Hd (Below w.heap.size w w10) := ⟨B11.out.trans (hC.below (fun x hx => by have := hin x hx; have := IV.out; omega) B11.out.size)⟩
  have S12 : Hd (EG ≤ w10.heap.size) := ⟨Nat.le_trans S11.out hC.size⟩
  clear A_8 W_5 X_3 G_2 B11 S11
  clear hin hO hC
  have hk0 : ¬ (((1 + cuTab (p0) : Nat) : Int) < 0) := by omega
  clear X_4
  go_wp2_with fail
  clear hk0 hcu
  refine (eqRecS_rd yG nG cG yW nW cW (r) _ (rcRecS_w (owRecS_ok.rd G_3.out.own)) (W_6.out.rd rdRecS_ok) (HR.out.2.1)).mono ?_
  rintro e w11 ⟨rfl, hB⟩
  have A_10 : Hd (VR 36 RdTab (U0) w.heap.size [.slice A_x0 A_m0 A_d0, .int .i64 p0.phase, .slice A_x2 A_m2 A_d2] (p0) w11) := ⟨A_9.out.below (by have := S12.out; have := IV.out; omega) hB⟩
  have W_7 : Hd (Lo (EW) RdRecS w11 [.slice yW nW cW] (r)) := ⟨W_6.out.step (hB.mono (by have := S12.out; have := IV.out; omega))⟩
  have G_4 : Hd (SO OwRecS LG (EG) [.slice yG nG cG] FG (r) w11) := ⟨G_3.out.below owRecS_ok hB⟩
  have B13 : Hd (Below w.heap.size w w11) := ⟨Below.next B12.out hB⟩
  have S13 : Hd (EG ≤ w11.heap.size) := ⟨Nat.le_trans S12.out hB.size⟩
  clear A_9 W_6 G_3 B12 S12
  clear hB
  go_wp2_with fail
  refine (markRecS_ow yG nG cG (1) (r) FG _ G_4.out.own (by exact HR.out.2.2) (by omega)).mono ?_
  rintro e w12 ⟨rfl, hO, hC⟩
  have hin : ∀ x, FG x → LG ≤ x ∧ x < EG := G_4.out.in_
  have A_11 : Hd (VR 36 RdTab (U0) w.heap.size [.slice A_x0 A_m0 A_d0, .int .i64 p0.phase, .slice A_x2 A_m2 A_d2] (p0) w12) := ⟨A_10.out.chg (by have := S13.out; have := IV.out; omega) hC (fun x hx => by have := hin x hx; have := IV.out; omega)⟩
  have W_8 : Hd (Lo (EW) RdRecS w12 [.slice yW nW cW] (r)) := ⟨W_7.out.step (hC.below (fun x hx => by have := hin x hx; have := IV.out; omega) (by have := S13.out; have := IV.out; omega))⟩
  have G_5 : Hd (SO OwRecS LG (EG) [.slice yG nG cG] FG (mkRecS (1) (r)) w12) := ⟨G_4.out.marked hO⟩
  have B14 : Hd (Below w.heap.size w w12) := ⟨B13.out.trans (hC.below (fun x hx => by have := hin x hx; have := IV.out; omega) B13.out.size)⟩
  have S14 : Hd (EG ≤ w12.heap.size) := ⟨Nat.le_trans S13.out hC.size⟩
  clear A_10 W_7 G_4 B13 S13
  clear hin hO hC
  go_wp2_with fail
  refine (heldRecS_rd yG nG cG (1) (r) _ (rcRecS_w (owRecS_ok.rd G_5.out.own)) (by exact HR.out.2.2) (by omega)).mono ?_
  rintro e w13 ⟨rfl, hB⟩
  have A_12 : Hd (VR 36 RdTab (U0) w.heap.size [.slice A_x0 A_m0 A_d0, .int .i64 p0.phase, .slice A_x2 A_m2 A_d2] (p0) w13) := ⟨A_11.out.below (by have := S14.out; have := IV.out; omega) hB⟩
  have W_9 : Hd (Lo (EW) RdRecS w13 [.slice yW nW cW] (r)) := ⟨W_8.out.step (hB.mono (by have := S14.out; have := IV.out; omega))⟩
  have G_6 : Hd (SO OwRecS LG (EG) [.slice yG nG cG] FG (mkRecS (1) (r)) w13) := ⟨G_5.out.below owRecS_ok hB⟩
  have B15 : Hd (Below w.heap.size w w13) := ⟨Below.next B14.out hB⟩
  have S15 : Hd (EG ≤ w13.heap.size) := ⟨Nat.le_trans S14.out hB.size⟩
  clear A_11 W_8 G_5 B14 S14
  clear hB
  have hq : ¬ (((1 + ctRecS (r) : Nat) : Int) < 0) := by omega
  have hqm : (((1 + ctRecS (r) : Nat) : Int) != ((1 + ctRecS (r) : Nat) : Int)) = false := by simp
  have c0 := cellsA A_12.out.box 0 rfl
  have c1 := cellsA A_12.out.box 1 rfl
  have c2 := cellsA A_12.out.box 2 rfl
  go_wp2_with fail
  clear c0 c1 c2
  refine (toTab_rd _ p0 _ (A_12.out.lo.rd rdTab_ok) (by have := HP0.out; omega)).mono ?_
  rintro e w14 ⟨⟨csh0, rfl, hN⟩, hB⟩
  have hT : RcTab w14 csh0 p0 := by obtain ⟨F9, hE9, _⟩ := hN; exact owTab_ok.rd hE9
  clear hN
  have A_13 : Hd (VR 36 RdTab (U0) w.heap.size [.slice A_x0 A_m0 A_d0, .int .i64 p0.phase, .slice A_x2 A_m2 A_d2] (p0) w14) := ⟨A_12.out.below (by have := S15.out; have := IV.out; omega) hB⟩
  have W_10 : Hd (Lo (EW) RdRecS w14 [.slice yW nW cW] (r)) := ⟨W_9.out.step (hB.mono (by have := S15.out; have := IV.out; omega))⟩
  have G_7 : Hd (SO OwRecS LG (EG) [.slice yG nG cG] FG (mkRecS (1) (r)) w14) := ⟨G_6.out.below owRecS_ok hB⟩
  have B16 : Hd (Below w.heap.size w w14) := ⟨Below.next B15.out hB⟩
  have S16 : Hd (EG ≤ w14.heap.size) := ⟨Nat.le_trans S15.out hB.size⟩
  clear A_12 W_9 G_6 B15 S15
  clear hB
  have Th0 : Hd (RcTab w14 csh0 (p0)) := ⟨hT⟩
  clear hT
  go_wp2_with fail
  obtain ⟨LH, hLH⟩ : ∃ L, w14.heap.size = L := ⟨_, rfl⟩
  have hLS : EG ≤ LH := by rw [← hLH]; exact S16.out
  refine (implRecsOf_ow _ p0 _ Th0.out (by have := HP0.out; omega)).mono ?_
  rintro e w15 ⟨⟨yH, nH, cH, rfl, hA⟩, hB⟩
  rw [HR.out.1] at hA
  clear Th0
  have hLv : LH ≤ w15.heap.size := by rw [← hLH]; exact hB.size
  rw [hLH] at hA
  obtain ⟨FH, hZ⟩ := so_new owRecS_ok hA
  clear hA
  obtain ⟨EH, hU⟩ : ∃ U, w15.heap.size = U := ⟨_, rfl⟩
  rw [hU] at hZ
  rw [hU] at hLv
  clear hLH
  have A_14 : Hd (VR 36 RdTab (U0) w.heap.size [.slice A_x0 A_m0 A_d0, .int .i64 p0.phase, .slice A_x2 A_m2 A_d2] (p0) w15) := ⟨A_13.out.below (by have := S16.out; have := IV.out; omega) hB⟩
  have W_11 : Hd (Lo (EW) RdRecS w15 [.slice yW nW cW] (r)) := ⟨W_10.out.step (hB.mono (by have := S16.out; have := IV.out; omega))⟩
  have G_8 : Hd (SO OwRecS LG (EG) [.slice yG nG cG] FG (mkRecS (1) (r)) w15) := ⟨G_7.out.below owRecS_ok hB⟩
  have B17 : Hd (Below w.heap.size w w15) := ⟨Below.next B16.out hB⟩
  have S17 : Hd (EG ≤ w15.heap.size) := ⟨Nat.le_trans S16.out hB.size⟩
  clear A_13 W_10 G_7 B16 S16
  clear hB
  have IV2 : Hd (w.heap.size + 1 = U0 ∧ U0 ≤ LW ∧ LW ≤ EW ∧ EW ≤ LX ∧ LX ≤ bX ∧ bX + 1 ≤ LG ∧ LG ≤ EG ∧ EG ≤ LH ∧ LH ≤ EH) := ⟨by have := IV.out; omega⟩
  clear IV hLS hLv
  have IV := IV2
  clear IV2
  have S18 : Hd (EH ≤ w15.heap.size) := ⟨by omega⟩
  clear S17 hU
  have H_0 : Hd (SO OwRecS LH (EH) [.slice yH nH cH] FH (r) w15) := ⟨hZ⟩
  clear hZ
  go_wp2_with fail
  refine (eqRecS_rd yH nH cH yW nW cW (r) _ (rcRecS_w (owRecS_ok.rd H_0.out.own)) (W_11.out.rd rdRecS_ok) (HR.out.2.1)).mono ?_
  rintro e w16 ⟨rfl, hB⟩
  have A_15 : Hd (VR 36 RdTab (U0) w.heap.size [.slice A_x0 A_m0 A_d0, .int .i64 p0.phase, .slice A_x2 A_m2 A_d2] (p0) w16) := ⟨A_14.out.below (by have := S18.out; have := IV.out; omega) hB⟩
  have W_12 : Hd (Lo (EW) RdRecS w16 [.slice yW nW cW] (r)) := ⟨W_11.out.step (hB.mono (by have := S18.out; have := IV.out; omega))⟩
  have G_9 : Hd (SO OwRecS LG (EG) [.slice yG nG cG] FG (mkRecS (1) (r)) w16) := ⟨G_8.out.below owRecS_ok hB⟩
  have H_1 : Hd (SO OwRecS LH (EH) [.slice yH nH cH] FH (r) w16) := ⟨H_0.out.below owRecS_ok hB⟩
  have B19 : Hd (Below w.heap.size w w16) := ⟨Below.next B17.out hB⟩
  have S19 : Hd (EH ≤ w16.heap.size) := ⟨Nat.le_trans S18.out hB.size⟩
  clear A_14 W_11 G_8 H_0 B17 S18
  clear hB
  go_wp2_with fail
  clear H_1
  clear W_12
  refine (heldRecS_rd yG nG cG (1) (r) _ (rcRecS_w (owRecS_ok.rd G_9.out.own)) (by exact HR.out.2.2) (by omega)).mono ?_
  rintro e w17 ⟨rfl, hB⟩
  have A_16 : Hd (VR 36 RdTab (U0) w.heap.size [.slice A_x0 A_m0 A_d0, .int .i64 p0.phase, .slice A_x2 A_m2 A_d2] (p0) w17) := ⟨A_15.out.below (by have := S19.out; have := IV.out; omega) hB⟩
  have G_10 : Hd (SO OwRecS LG (EG) [.slice yG nG cG] FG (mkRecS (1) (r)) w17) := ⟨G_9.out.below owRecS_ok hB⟩
  have B20 : Hd (Below w.heap.size w w17) := ⟨Below.next B19.out hB⟩
  have S20 : Hd (EH ≤ w17.heap.size) := ⟨Nat.le_trans S19.out hB.size⟩
  clear A_15 G_9 B19 S19
  clear hB
  go_wp2_with fail
  go_ret
  exact ⟨rfl, B20.out⟩

set_option maxRecDepth 100000 in
theorem lifted (os : Os) (started : os.Started) (H : Type) (enc : TypeId × Value → H) :
    ReturnsInHanded {} Try.checked os 6 .any (Rows.fnExactRecsOfSpec.pre6 enc Try.prog Try.f6 Rows.fnExactRecsOfRow.domain false) (Rows.fnExactRecsOfSpec.post enc Try.prog Try.f6 false true false false) := by
  refine returnsInHanded_of_change (C := Try.checked) own started (by kernel_rfl) Try.func6
    (ChangeSpec.witness6 (enc := enc) (C := Try.checked) false ⟨#[], #[.agg #[.slice none 0 0, .int .i64 0, .slice none 0 0]], []⟩ 8 (by kernel_rfl) (by kernel_rfl) (by kernel_rfl) (by kernel_rfl)) ?_
  intro W base args ds gs before hval0 hW hcnd _
  have hval : ∀ (j : Nat) t v, Try.f6.params[j]? = some t → args[j]? = some v → Value.okWide Try.prog W .any base t v := hval0
  have hW' := hW
  obtain ⟨p, q, hA0, hV, rfl, hfz, hnd⟩ := hW
  have hA : DataW.TrodAll enc Try.prog W 0 (fun _ => true) true Try.f6.params.toList args.toList ds p := hA0
  rw [Try.params6] at hA hval
  obtain ⟨v0, vs0, d0, ds0, p0, q0, hargs, rfl, rfl, h0, r0⟩ := trodAll_cons hA
  obtain ⟨rfl, rfl, rfl⟩ := trodAll_nil r0
  obtain rfl : args = #[v0] := by cases args; simp_all
  obtain ⟨rfl, rfl⟩ := trodVars_none hV
  have k0 := h0
  have lt0 : ∀ x ∈ p0, x.block < W.heap.size := by obtain ⟨m, hm⟩ := k0; exact DataW.trod_lt m _ _ _ hm
  obtain ⟨cs0, rfl, _⟩ := okWide_struct Try.underlying36 (hval 0 36 v0 rfl rfl)
  obtain ⟨e0, g0⟩ : ∃ a, RdTab W cs0.toList a := by obtain ⟨fuel, hf⟩ := h0; exact rdTab_trod enc W 0 _ true fuel _ _ hf
  obtain ⟨A_x0, A_m0, A_d0, A_x2, A_m2, A_d2, hcs0, _⟩ := id g0
  obtain rfl : cs0 = #[.slice A_x0 A_m0 A_d0, .int .i64 e0.phase, .slice A_x2 A_m2 A_d2] := by apply Array.toList_inj.1; rw [hcs0]
  clear hA0 hval0
  refine (walk A_x0 A_m0 A_d0 A_x2 A_m2 A_d2 e0 W g0).mono fun e W' ⟨he, hg⟩ => ?_
  subst he
  exact ⟨_, rfl, _, _, _, [], _, [], hW', trodAll_mk1 (shut_bool Try.underlying4 _), (trodAll_cons_mk (Below.trod laidOut (by kernel_rfl) (of_decide_eq_true (by kernel_rfl)) k0 hg lt0) trodAll_mk0), rfl, hg.frame _, fun h => by cases h⟩

theorem over : Rows.fnExactRecsOfRow.holds Try.pinned (OpenSpec.ofChange Rows.fnExactRecsOfSpec) :=
  OpenClaim.holds_of_wide 6 Try.f6 rfl rfl rfl rfl rfl rfl rfl ⟨rfl, rfl, rfl, rfl, rfl⟩ rfl rfl rfl rfl rfl (by kernel_rfl) Try.func6 (by kernel_rfl)
    (of_decide_eq_true (by kernel_rfl)) (by unfold Func.isWrapper; first | (rw [if_pos (by decide +kernel)]; kernel_rfl) | (rw [if_neg (by decide +kernel)]; exact ⟨rfl, rfl⟩))
    (fun os started H enc _ => lifted os started H enc)

end Go.Proofs.Ytlididoalekeoaa.fnExactRecsOf

namespace Go.Proofs.Ytlididoalekeoaa
theorem FnExactRecsOf_holds : Rows.FnExactRecsOfSaid := fnExactRecsOf.over
#print axioms FnExactRecsOf_holds
end Go.Proofs.Ytlididoalekeoaa
