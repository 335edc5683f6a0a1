/- FnExactSameTab holds: at every two Tabs the program's SameTab answers as the specification's does, and writes into nothing. -/
import Derived.Test.YtfgicjglinmclabRows
import Derived.WalkKit
import Derived.ProofKit
import Derived.OpenShut
import Derived.ShutString
import Derived.ChangeOld
import Derived.Below
import Derived.OpenVars
import Derived.Stop.Joined
import Derived.Lib.SmallJoins
import Derived.Deep.RegionHeld3
import Derived.Deep.RegionHeldLaw
import Derived.Test.YtfgicjglinmclabTrodTab
import Derived.Test.YtfgicjglinmclabSameTI
import Derived.Test.YtfgicjglinmclabSameTS
import Derived.Test.YtfgicjglinmclabExactB
namespace Go.Proofs.Ytfgicjglinmclab.fnExactSameTab
open Go.ChangeShapes Go.WideShapes Go.ChangeAt Go.RowKit
set_option linter.unusedVariables false

theorem own : ownKnob Try.prog.godebug = none := by kernel_rfl
theorem laidOut : laidOutB Try.prog = true := by kernel_rfl

set_option maxHeartbeats 2000000 in
theorem walk (A_x0 : Option Addr) (A_m0 A_d0 : Nat) (A_x2 : Option Addr) (A_m2 A_d2 : Nat) (p0 : TabD) (D_x0 : Option Addr) (D_m0 D_d0 : Nat) (D_x2 : Option Addr) (D_m2 D_d2 : Nat) (p1 : TabD) (w : World) (h0 : RdTab w [.slice A_x0 A_m0 A_d0, .int .i64 p0.phase, .slice A_x2 A_m2 A_d2] p0) (h1 : RdTab w [.slice D_x0 D_m0 D_d0, .int .i64 p1.phase, .slice D_x2 D_m2 D_d2] p1) :
    Calls Try.prog 4 #[.agg #[.slice A_x0 A_m0 A_d0, .int .i64 p0.phase, .slice A_x2 A_m2 A_d2], .agg #[.slice D_x0 D_m0 D_d0, .int .i64 p1.phase, .slice D_x2 D_m2 D_d2]] w fun e w' => e = .returned (.bool true) ∧ Below w.heap.size w w' := by
  have HA0 : Hd (RdTab w [.slice A_x0 A_m0 A_d0, .int .i64 p0.phase, .slice A_x2 A_m2 A_d2] p0) := ⟨h0⟩
  clear h0
  have HA1 : Hd (RdTab w [.slice D_x0 D_m0 D_d0, .int .i64 p1.phase, .slice D_x2 D_m2 D_d2] p1) := ⟨h1⟩
  clear h1
  go_enter Try.func4, Try.ntmps4
  go_wp2_with fail
  obtain ⟨w1, hW0⟩ : ∃ W, w.alloc (.cells #[.slice A_x0 A_m0 A_d0, .int .i64 p0.phase, .slice A_x2 A_m2 A_d2] 25) = W := ⟨_, rfl⟩
  have B0 : Hd (Below w.heap.size w w1) := ⟨by rw [← hW0]; exact below_lit w _⟩
  have A_0 : Hd (BR 25 RdTab w.heap.size [.slice A_x0 A_m0 A_d0, .int .i64 p0.phase, .slice A_x2 A_m2 A_d2] (p0) w1) := ⟨by rw [← hW0]; exact br_new rdTab_ok HA0.out⟩
  obtain ⟨w2, hW1⟩ : ∃ W, w1.alloc (.cells #[.slice D_x0 D_m0 D_d0, .int .i64 p1.phase, .slice D_x2 D_m2 D_d2] 25) = W := ⟨_, rfl⟩
  have hBx : Below w1.heap.size w1 w2 := by rw [← hW1]; exact below_lit _ _
  have hsz : w1.heap.size = w.heap.size + 1 := by rw [← hW0]; simp
  have D_0 : Hd (BR 25 RdTab (w.heap.size + 1) [.slice D_x0 D_m0 D_d0, .int .i64 p1.phase, .slice D_x2 D_m2 D_d2] (p1) w2) := ⟨by rw [← hW1, ← hsz]; exact br_new rdTab_ok (rdTab_ok.below HA1.out B0.out)⟩
  clear hsz
  have A_1 : Hd (BR 25 RdTab w.heap.size [.slice A_x0 A_m0 A_d0, .int .i64 p0.phase, .slice A_x2 A_m2 A_d2] (p0) w2) := ⟨A_0.out.below rdTab_ok hBx⟩
  have B1 : Hd (Below w.heap.size w w2) := ⟨Below.next B0.out hBx⟩
  clear A_0 B0
  clear hBx
  rewrite [hW0, hW1]
  clear hW0 hW1 HA0 HA1
  refine (szTab_rd _ p0 (1048576) _ A_1.out.lo ⟨by omega, by omega⟩).mono ?_
  rintro e w3 ⟨⟨l0, rfl, hl1, hl2, hl3⟩, hB⟩
  have A_2 : Hd (BR 25 RdTab w.heap.size [.slice A_x0 A_m0 A_d0, .int .i64 p0.phase, .slice A_x2 A_m2 A_d2] (p0) w3) := ⟨A_1.out.below rdTab_ok hB⟩
  have D_1 : Hd (BR 25 RdTab (w.heap.size + 1) [.slice D_x0 D_m0 D_d0, .int .i64 p1.phase, .slice D_x2 D_m2 D_d2] (p1) w3) := ⟨D_0.out.below rdTab_ok hB⟩
  have B2 : Hd (Below w.heap.size w w3) := ⟨Below.next B1.out hB⟩
  clear A_1 D_0 B1
  clear hB
  by_cases hz0 : l0 < 0
  · go_wp2_with fail
    go_ret
    exact ⟨rfl, B2.out⟩
  have HP0 : Hd (wtTab p0 ≤ 1048576) := ⟨by have := hl3 (by omega); omega⟩
  clear hl1 hl3
  have c0 := cellsA D_1.out.box 0 rfl
  have c1 := cellsA D_1.out.box 1 rfl
  have c2 := cellsA D_1.out.box 2 rfl
  go_wp2_with fail
  clear c0 c1 c2
  refine (szTab_rd _ p1 (l0) _ D_1.out.lo ⟨by omega, by omega⟩).mono ?_
  rintro e w4 ⟨⟨l1, rfl, hl1, hl2, hl3⟩, hB⟩
  have A_3 : Hd (BR 25 RdTab w.heap.size [.slice A_x0 A_m0 A_d0, .int .i64 p0.phase, .slice A_x2 A_m2 A_d2] (p0) w4) := ⟨A_2.out.below rdTab_ok hB⟩
  have D_2 : Hd (BR 25 RdTab (w.heap.size + 1) [.slice D_x0 D_m0 D_d0, .int .i64 p1.phase, .slice D_x2 D_m2 D_d2] (p1) w4) := ⟨D_1.out.below rdTab_ok hB⟩
  have B3 : Hd (Below w.heap.size w w4) := ⟨Below.next B2.out hB⟩
  clear A_2 D_1 B2
  clear hB
  by_cases hz1 : l1 < 0
  · go_wp2_with fail
    go_ret
    exact ⟨rfl, B3.out⟩
  have HP1 : Hd (wtTab p1 ≤ 1048576) := ⟨by have := hl3 (by omega); omega⟩
  clear hl1 hl3
  obtain ⟨r, hr⟩ : ∃ r, sameTab p0 p1 = r := ⟨_, rfl⟩
  have HR : Hd (sameTab p0 p1 = r) := ⟨hr⟩
  clear hr
  have hrr : (r != r) = false := by simp
  go_wp2_with fail
  have KK : Hd (∀ w', Below w4.heap.size w4 w' → (w'.cell? ⟨w.heap.size, 0, none⟩ = some (.slice A_x0 A_m0 A_d0) ∧ w'.cell? ⟨w.heap.size, 1, none⟩ = some (.int .i64 p0.phase) ∧ w'.cell? ⟨w.heap.size, 2, none⟩ = some (.slice A_x2 A_m2 A_d2) ∧ w'.cell? ⟨(w.heap.size + 1), 0, none⟩ = some (.slice D_x0 D_m0 D_d0) ∧ w'.cell? ⟨(w.heap.size + 1), 1, none⟩ = some (.int .i64 p1.phase) ∧ w'.cell? ⟨(w.heap.size + 1), 2, none⟩ = some (.slice D_x2 D_m2 D_d2))) := ⟨fun w' hb => ⟨cell_below (cellsA A_3.out.box 0 rfl) hb, cell_below (cellsA A_3.out.box 1 rfl) hb, cell_below (cellsA A_3.out.box 2 rfl) hb, cell_below (cellsA D_2.out.box 0 rfl) hb, cell_below (cellsA D_2.out.box 1 rfl) hb, cell_below (cellsA D_2.out.box 2 rfl) hb⟩⟩
  have D0 : Hd (Below w4.heap.size w4 w4.drew) := ⟨(Below.refl _ w4).drew⟩
  have c0 := cellsA A_3.out.box 0 rfl
  have c1 := cellsA A_3.out.box 1 rfl
  have c2 := cellsA A_3.out.box 2 rfl
  have g0 := cellsA D_2.out.box 0 rfl
  have g1 := cellsA D_2.out.box 1 rfl
  have g2 := cellsA D_2.out.box 2 rfl
  go_region_held (fun w' => w'.cell? ⟨w.heap.size, 0, none⟩ = some (.slice A_x0 A_m0 A_d0) ∧ w'.cell? ⟨w.heap.size, 1, none⟩ = some (.int .i64 p0.phase) ∧ w'.cell? ⟨w.heap.size, 2, none⟩ = some (.slice A_x2 A_m2 A_d2) ∧ w'.cell? ⟨(w.heap.size + 1), 0, none⟩ = some (.slice D_x0 D_m0 D_d0) ∧ w'.cell? ⟨(w.heap.size + 1), 1, none⟩ = some (.int .i64 p1.phase) ∧ w'.cell? ⟨(w.heap.size + 1), 2, none⟩ = some (.slice D_x2 D_m2 D_d2)) (first | (with_reducible exact KK.out _ D3.out) | (with_reducible exact KK.out _ D2.out) | (with_reducible exact KK.out _ D1.out) | (with_reducible exact KK.out _ D0.out))
    (first | (go_at_call 14; refine (specSameTab_rd _ _ p0 p1 _ R2.out.1 R2.out.2 (by have := HP0.out; omega) (by have := HP1.out; omega)).mono ?_; rintro e w5 ⟨rfl, hB9⟩; rewrite [HR.out]; have D3 : Hd (Below w4.heap.size w4 w5) := ⟨Below.next D2.out hB9⟩; clear hB9) | (have Z1 := D1; clear Z1; go_at_call 7; refine (toTab_rd _ p1 _ (rdTab_ok.below D_2.out.lo D1.out) (by have := HP1.out; omega)).mono ?_; rintro e wv2 ⟨⟨cs9, rfl, hN9⟩, hB9⟩; have D2 : Hd (Below w4.heap.size w4 wv2) := ⟨Below.next D1.out hB9⟩; have R2 : Hd (RcTab wv2 cs8 p0 ∧ RcTab wv2 cs9 p1) := (⟨rcTab_ok.below R1.out hB9, by obtain ⟨F9, hE9, _⟩ := hN9; exact owTab_ok.rd hE9⟩); clear hB9 hN9) | (go_at_call 7; refine (toTab_rd _ p0 _ (rdTab_ok.below A_3.out.lo D0.out) (by have := HP0.out; omega)).mono ?_; rintro e wv1 ⟨⟨cs8, rfl, hN9⟩, hB9⟩; have D1 : Hd (Below w4.heap.size w4 wv1) := ⟨Below.next D0.out hB9⟩; have R1 : Hd (RcTab wv1 cs8 p0) := (⟨by obtain ⟨F9, hE9, _⟩ := hN9; exact owTab_ok.rd hE9⟩); clear hB9 hN9))
  have hB : Below w4.heap.size w4 w5 := D3.out
  clear D3 D2 D1 D0 KK R1 R2 c0 c1 c2 g0 g1 g2
  have A_4 : Hd (BR 25 RdTab w.heap.size [.slice A_x0 A_m0 A_d0, .int .i64 p0.phase, .slice A_x2 A_m2 A_d2] (p0) w5) := ⟨A_3.out.below rdTab_ok hB⟩
  have D_3 : Hd (BR 25 RdTab (w.heap.size + 1) [.slice D_x0 D_m0 D_d0, .int .i64 p1.phase, .slice D_x2 D_m2 D_d2] (p1) w5) := ⟨D_2.out.below rdTab_ok hB⟩
  have B4 : Hd (Below w.heap.size w w5) := ⟨Below.next B3.out hB⟩
  clear A_3 D_2 B3
  clear hB
  have c0 := cellsA A_4.out.box 0 rfl
  have c1 := cellsA A_4.out.box 1 rfl
  have c2 := cellsA A_4.out.box 2 rfl
  go_wp2_with fail
  clear c0 c1 c2
  refine (toTab_rd _ p0 _ A_4.out.lo (by have := HP0.out; omega)).mono ?_
  rintro e w6 ⟨⟨csr, rfl, hA⟩, hB⟩
  obtain ⟨F9, hE9, _⟩ := hA
  have hA := owTab_ok.rd hE9
  clear hE9
  have hA8 := hA
  simp only [RcTab] at hA8
  obtain ⟨X_x0, X_m0, X_d0, X_x2, X_m2, X_d2, rfl, _⟩ := hA8
  have A_5 : Hd (BR 25 RdTab w.heap.size [.slice A_x0 A_m0 A_d0, .int .i64 p0.phase, .slice A_x2 A_m2 A_d2] (p0) w6) := ⟨A_4.out.below rdTab_ok hB⟩
  have D_4 : Hd (BR 25 RdTab (w.heap.size + 1) [.slice D_x0 D_m0 D_d0, .int .i64 p1.phase, .slice D_x2 D_m2 D_d2] (p1) w6) := ⟨D_3.out.below rdTab_ok hB⟩
  have B5 : Hd (Below w.heap.size w w6) := ⟨Below.next B4.out hB⟩
  clear A_4 D_3 B4
  clear hB
  obtain ⟨bX, hbX⟩ : ∃ b, w6.heap.size = b := ⟨_, rfl⟩
  obtain ⟨w7, hW9⟩ : ∃ W, w6.alloc (.cells #[.slice X_x0 X_m0 X_d0, .int .i64 p0.phase, .slice X_x2 X_m2 X_d2] 32) = W := ⟨_, rfl⟩
  have hBx : Below w6.heap.size w6 w7 := by rw [← hW9]; exact below_lit _ _
  have X_0 : Hd (BR 32 RcTab bX [.slice X_x0 X_m0 X_d0, .int .i64 p0.phase, .slice X_x2 X_m2 X_d2] (p0) w7) := ⟨by rw [← hW9, ← hbX]; exact br_new rcTab_ok hA⟩
  clear hA
  have A_6 : Hd (BR 25 RdTab w.heap.size [.slice A_x0 A_m0 A_d0, .int .i64 p0.phase, .slice A_x2 A_m2 A_d2] (p0) w7) := ⟨A_5.out.below rdTab_ok hBx⟩
  have D_5 : Hd (BR 25 RdTab (w.heap.size + 1) [.slice D_x0 D_m0 D_d0, .int .i64 p1.phase, .slice D_x2 D_m2 D_d2] (p1) w7) := ⟨D_4.out.below rdTab_ok hBx⟩
  have B6 : Hd (Below w.heap.size w w7) := ⟨Below.next B5.out hBx⟩
  clear A_5 D_4 B5
  clear hBx
  have c0 := cellsA D_5.out.box 0 rfl
  have c1 := cellsA D_5.out.box 1 rfl
  have c2 := cellsA D_5.out.box 2 rfl
  go_wp2_with fail
  clear hW9 hbX c0 c1 c2
  refine (toTab_rd _ p1 _ D_5.out.lo (by have := HP1.out; omega)).mono ?_
  rintro e w8 ⟨⟨csr, rfl, hA⟩, hB⟩
  obtain ⟨F9, hE9, _⟩ := hA
  have hA := owTab_ok.rd hE9
  clear hE9
  have hA8 := hA
  simp only [RcTab] at hA8
  obtain ⟨Y_x0, Y_m0, Y_d0, Y_x2, Y_m2, Y_d2, rfl, _⟩ := hA8
  have A_7 : Hd (BR 25 RdTab w.heap.size [.slice A_x0 A_m0 A_d0, .int .i64 p0.phase, .slice A_x2 A_m2 A_d2] (p0) w8) := ⟨A_6.out.below rdTab_ok hB⟩
  have D_6 : Hd (BR 25 RdTab (w.heap.size + 1) [.slice D_x0 D_m0 D_d0, .int .i64 p1.phase, .slice D_x2 D_m2 D_d2] (p1) w8) := ⟨D_5.out.below rdTab_ok hB⟩
  have X_1 : Hd (BR 32 RcTab bX [.slice X_x0 X_m0 X_d0, .int .i64 p0.phase, .slice X_x2 X_m2 X_d2] (p0) w8) := ⟨X_0.out.below rcTab_ok hB⟩
  have B7 : Hd (Below w.heap.size w w8) := ⟨Below.next B6.out hB⟩
  clear A_6 D_5 X_0 B6
  clear hB
  obtain ⟨bY, hbY⟩ : ∃ b, w8.heap.size = b := ⟨_, rfl⟩
  obtain ⟨w9, hW9⟩ : ∃ W, w8.alloc (.cells #[.slice Y_x0 Y_m0 Y_d0, .int .i64 p1.phase, .slice Y_x2 Y_m2 Y_d2] 32) = W := ⟨_, rfl⟩
  have hBx : Below w8.heap.size w8 w9 := by rw [← hW9]; exact below_lit _ _
  have Y_0 : Hd (BR 32 RcTab bY [.slice Y_x0 Y_m0 Y_d0, .int .i64 p1.phase, .slice Y_x2 Y_m2 Y_d2] (p1) w9) := ⟨by rw [← hW9, ← hbY]; exact br_new rcTab_ok hA⟩
  clear hA
  have A_8 : Hd (BR 25 RdTab w.heap.size [.slice A_x0 A_m0 A_d0, .int .i64 p0.phase, .slice A_x2 A_m2 A_d2] (p0) w9) := ⟨A_7.out.below rdTab_ok hBx⟩
  have D_7 : Hd (BR 25 RdTab (w.heap.size + 1) [.slice D_x0 D_m0 D_d0, .int .i64 p1.phase, .slice D_x2 D_m2 D_d2] (p1) w9) := ⟨D_6.out.below rdTab_ok hBx⟩
  have X_2 : Hd (BR 32 RcTab bX [.slice X_x0 X_m0 X_d0, .int .i64 p0.phase, .slice X_x2 X_m2 X_d2] (p0) w9) := ⟨X_1.out.below rcTab_ok hBx⟩
  have B8 : Hd (Below w.heap.size w w9) := ⟨Below.next B7.out hBx⟩
  clear A_7 D_6 X_1 B7
  clear hBx
  have c0 := cellsA X_2.out.box 0 rfl
  have c1 := cellsA X_2.out.box 1 rfl
  have c2 := cellsA X_2.out.box 2 rfl
  have g0 := cellsA Y_0.out.box 0 rfl
  have g1 := cellsA Y_0.out.box 1 rfl
  have g2 := cellsA Y_0.out.box 2 rfl
  go_wp2_with fail
  clear hW9 hbY c0 c1 c2 g0 g1 g2
  refine (implSameTab_rd _ _ p0 p1 _ X_2.out.lo Y_0.out.lo (by have := HP0.out; omega) (by have := HP1.out; omega)).mono ?_
  rintro e w10 ⟨rfl, hB⟩
  rewrite [HR.out]
  have A_9 : Hd (BR 25 RdTab w.heap.size [.slice A_x0 A_m0 A_d0, .int .i64 p0.phase, .slice A_x2 A_m2 A_d2] (p0) w10) := ⟨A_8.out.below rdTab_ok hB⟩
  have D_8 : Hd (BR 25 RdTab (w.heap.size + 1) [.slice D_x0 D_m0 D_d0, .int .i64 p1.phase, .slice D_x2 D_m2 D_d2] (p1) w10) := ⟨D_7.out.below rdTab_ok hB⟩
  have X_3 : Hd (BR 32 RcTab bX [.slice X_x0 X_m0 X_d0, .int .i64 p0.phase, .slice X_x2 X_m2 X_d2] (p0) w10) := ⟨X_2.out.below rcTab_ok hB⟩
  have Y_1 : Hd (BR 32 RcTab bY [.slice Y_x0 Y_m0 Y_d0, .int .i64 p1.phase, .slice Y_x2 Y_m2 Y_d2] (p1) w10) := ⟨Y_0.out.below rcTab_ok hB⟩
  have B9 : Hd (Below w.heap.size w w10) := ⟨Below.next B8.out hB⟩
  clear A_8 D_7 X_2 Y_0 B8
  clear hB
  have c0 := cellsA X_3.out.box 0 rfl
  have c1 := cellsA X_3.out.box 1 rfl
  have c2 := cellsA X_3.out.box 2 rfl
  have g0 := cellsA A_9.out.box 0 rfl
  have g1 := cellsA A_9.out.box 1 rfl
  have g2 := cellsA A_9.out.box 2 rfl
  go_wp2_with fail
  clear c0 c1 c2 g0 g1 g2
  have KK : Hd (∀ w', Below w10.heap.size w10 w' → (w'.cell? ⟨bX, 0, none⟩ = some (.slice X_x0 X_m0 X_d0) ∧ w'.cell? ⟨bX, 1, none⟩ = some (.int .i64 p0.phase) ∧ w'.cell? ⟨bX, 2, none⟩ = some (.slice X_x2 X_m2 X_d2) ∧ w'.cell? ⟨w.heap.size, 0, none⟩ = some (.slice A_x0 A_m0 A_d0) ∧ w'.cell? ⟨w.heap.size, 1, none⟩ = some (.int .i64 p0.phase) ∧ w'.cell? ⟨w.heap.size, 2, none⟩ = some (.slice A_x2 A_m2 A_d2))) := ⟨fun w' hb => ⟨cell_below (cellsA X_3.out.box 0 rfl) hb, cell_below (cellsA X_3.out.box 1 rfl) hb, cell_below (cellsA X_3.out.box 2 rfl) hb, cell_below (cellsA A_9.out.box 0 rfl) hb, cell_below (cellsA A_9.out.box 1 rfl) hb, cell_below (cellsA A_9.out.box 2 rfl) hb⟩⟩
  have D0 : Hd (Below w10.heap.size w10 w10.drew) := ⟨(Below.refl _ w10).drew⟩
  have c0 := cellsA X_3.out.box 0 rfl
  have c1 := cellsA X_3.out.box 1 rfl
  have c2 := cellsA X_3.out.box 2 rfl
  have g0 := cellsA A_9.out.box 0 rfl
  have g1 := cellsA A_9.out.box 1 rfl
  have g2 := cellsA A_9.out.box 2 rfl
  go_region_held (fun w' => w'.cell? ⟨bX, 0, none⟩ = some (.slice X_x0 X_m0 X_d0) ∧ w'.cell? ⟨bX, 1, none⟩ = some (.int .i64 p0.phase) ∧ w'.cell? ⟨bX, 2, none⟩ = some (.slice X_x2 X_m2 X_d2) ∧ w'.cell? ⟨w.heap.size, 0, none⟩ = some (.slice A_x0 A_m0 A_d0) ∧ w'.cell? ⟨w.heap.size, 1, none⟩ = some (.int .i64 p0.phase) ∧ w'.cell? ⟨w.heap.size, 2, none⟩ = some (.slice A_x2 A_m2 A_d2)) (first | (with_reducible exact KK.out _ D2.out) | (with_reducible exact KK.out _ D1.out) | (with_reducible exact KK.out _ D0.out))
    (first | (go_at_call 10; refine (eqTab_rd _ cs9 p0 _ (rdTab_ok.below (rcTab_w X_3.out.lo) D1.out) R9.out (by have := HP0.out; omega)).mono ?_; rintro e w11 ⟨rfl, hB9⟩; have D2 : Hd (Below w10.heap.size w10 w11) := ⟨Below.next D1.out hB9⟩; clear hB9) | (go_at_call 7; refine (toTab_rd _ p0 _ (rdTab_ok.below A_9.out.lo D0.out) (by have := HP0.out; omega)).mono ?_; rintro e wv ⟨⟨cs9, rfl, hN9⟩, hB9⟩; have D1 : Hd (Below w10.heap.size w10 wv) := ⟨Below.next D0.out hB9⟩; have R9 : Hd (RdTab wv cs9 p0) := (⟨by obtain ⟨F9, hE9, _⟩ := hN9; exact rcTab_w (owTab_ok.rd hE9)⟩); clear hB9 hN9))
  have hB : Below w10.heap.size w10 w11 := D2.out
  clear D2 D1 D0 KK R9 c0 c1 c2 g0 g1 g2
  have A_10 : Hd (BR 25 RdTab w.heap.size [.slice A_x0 A_m0 A_d0, .int .i64 p0.phase, .slice A_x2 A_m2 A_d2] (p0) w11) := ⟨A_9.out.below rdTab_ok hB⟩
  have D_9 : Hd (BR 25 RdTab (w.heap.size + 1) [.slice D_x0 D_m0 D_d0, .int .i64 p1.phase, .slice D_x2 D_m2 D_d2] (p1) w11) := ⟨D_8.out.below rdTab_ok hB⟩
  have X_4 : Hd (BR 32 RcTab bX [.slice X_x0 X_m0 X_d0, .int .i64 p0.phase, .slice X_x2 X_m2 X_d2] (p0) w11) := ⟨X_3.out.below rcTab_ok hB⟩
  have Y_2 : Hd (BR 32 RcTab bY [.slice Y_x0 Y_m0 Y_d0, .int .i64 p1.phase, .slice Y_x2 Y_m2 Y_d2] (p1) w11) := ⟨Y_1.out.below rcTab_ok hB⟩
  have B10 : Hd (Below w.heap.size w w11) := ⟨Below.next B9.out hB⟩
  clear A_9 D_8 X_3 Y_1 B9
  clear hB
  have c0 := cellsA Y_2.out.box 0 rfl
  have c1 := cellsA Y_2.out.box 1 rfl
  have c2 := cellsA Y_2.out.box 2 rfl
  have g0 := cellsA D_9.out.box 0 rfl
  have g1 := cellsA D_9.out.box 1 rfl
  have g2 := cellsA D_9.out.box 2 rfl
  go_wp2_with fail
  clear c0 c1 c2 g0 g1 g2
  have KK : Hd (∀ w', Below w11.heap.size w11 w' → (w'.cell? ⟨bY, 0, none⟩ = some (.slice Y_x0 Y_m0 Y_d0) ∧ w'.cell? ⟨bY, 1, none⟩ = some (.int .i64 p1.phase) ∧ w'.cell? ⟨bY, 2, none⟩ = some (.slice Y_x2 Y_m2 Y_d2) ∧ w'.cell? ⟨(w.heap.size + 1), 0, none⟩ = some (.slice D_x0 D_m0 D_d0) ∧ w'.cell? ⟨(w.heap.size + 1), 1, none⟩ = some (.int .i64 p1.phase) ∧ w'.cell? ⟨(w.heap.size + 1), 2, none⟩ = some (.slice D_x2 D_m2 D_d2))) := ⟨fun w' hb => ⟨cell_below (cellsA Y_2.out.box 0 rfl) hb, cell_below (cellsA Y_2.out.box 1 rfl) hb, cell_below (cellsA Y_2.out.box 2 rfl) hb, cell_below (cellsA D_9.out.box 0 rfl) hb, cell_below (cellsA D_9.out.box 1 rfl) hb, cell_below (cellsA D_9.out.box 2 rfl) hb⟩⟩
  have D0 : Hd (Below w11.heap.size w11 w11.drew) := ⟨(Below.refl _ w11).drew⟩
  have c0 := cellsA Y_2.out.box 0 rfl
  have c1 := cellsA Y_2.out.box 1 rfl
  have c2 := cellsA Y_2.out.box 2 rfl
  have g0 := cellsA D_9.out.box 0 rfl
  have g1 := cellsA D_9.out.box 1 rfl
  have g2 := cellsA D_9.out.box 2 rfl
  go_region_held (fun w' => w'.cell? ⟨bY, 0, none⟩ = some (.slice Y_x0 Y_m0 Y_d0) ∧ w'.cell? ⟨bY, 1, none⟩ = some (.int .i64 p1.phase) ∧ w'.cell? ⟨bY, 2, none⟩ = some (.slice Y_x2 Y_m2 Y_d2) ∧ w'.cell? ⟨(w.heap.size + 1), 0, none⟩ = some (.slice D_x0 D_m0 D_d0) ∧ w'.cell? ⟨(w.heap.size + 1), 1, none⟩ = some (.int .i64 p1.phase) ∧ w'.cell? ⟨(w.heap.size + 1), 2, none⟩ = some (.slice D_x2 D_m2 D_d2)) (first | (with_reducible exact KK.out _ D2.out) | (with_reducible exact KK.out _ D1.out) | (with_reducible exact KK.out _ D0.out))
    (first | (go_at_call 10; refine (eqTab_rd _ cs9 p1 _ (rdTab_ok.below (rcTab_w Y_2.out.lo) D1.out) R9.out (by have := HP1.out; omega)).mono ?_; rintro e w12 ⟨rfl, hB9⟩; have D2 : Hd (Below w11.heap.size w11 w12) := ⟨Below.next D1.out hB9⟩; clear hB9) | (go_at_call 7; refine (toTab_rd _ p1 _ (rdTab_ok.below D_9.out.lo D0.out) (by have := HP1.out; omega)).mono ?_; rintro e wv ⟨⟨cs9, rfl, hN9⟩, hB9⟩; have D1 : Hd (Below w11.heap.size w11 wv) := ⟨Below.next D0.out hB9⟩; have R9 : Hd (RdTab wv cs9 p1) := (⟨by obtain ⟨F9, hE9, _⟩ := hN9; exact rcTab_w (owTab_ok.rd hE9)⟩); clear hB9 hN9))
  have hB : Below w11.heap.size w11 w12 := D2.out
  clear D2 D1 D0 KK R9 c0 c1 c2 g0 g1 g2
  have A_11 : Hd (BR 25 RdTab w.heap.size [.slice A_x0 A_m0 A_d0, .int .i64 p0.phase, .slice A_x2 A_m2 A_d2] (p0) w12) := ⟨A_10.out.below rdTab_ok hB⟩
  have D_10 : Hd (BR 25 RdTab (w.heap.size + 1) [.slice D_x0 D_m0 D_d0, .int .i64 p1.phase, .slice D_x2 D_m2 D_d2] (p1) w12) := ⟨D_9.out.below rdTab_ok hB⟩
  have X_5 : Hd (BR 32 RcTab bX [.slice X_x0 X_m0 X_d0, .int .i64 p0.phase, .slice X_x2 X_m2 X_d2] (p0) w12) := ⟨X_4.out.below rcTab_ok hB⟩
  have Y_3 : Hd (BR 32 RcTab bY [.slice Y_x0 Y_m0 Y_d0, .int .i64 p1.phase, .slice Y_x2 Y_m2 Y_d2] (p1) w12) := ⟨Y_2.out.below rcTab_ok hB⟩
  have B11 : Hd (Below w.heap.size w w12) := ⟨Below.next B10.out hB⟩
  clear A_10 D_9 X_4 Y_2 B10
  clear hB
  go_wp2_with fail
  go_ret
  exact ⟨rfl, B11.out⟩

set_option maxRecDepth 100000 in
theorem lifted (os : Os) (started : os.Started) (H : Type) (enc : TypeId × Value → H) :
    ReturnsInHanded {} Try.checked os 4 .any (Rows.fnExactSameTabSpec.pre6 enc Try.prog Try.f4 Rows.fnExactSameTabRow.domain false) (Rows.fnExactSameTabSpec.post enc Try.prog Try.f4 false true false false) := by
  refine returnsInHanded_of_change (C := Try.checked) own started (by kernel_rfl) Try.func4
    (ChangeSpec.witness6 (enc := enc) (C := Try.checked) false ⟨#[], #[.agg #[.slice none 0 0, .int .i64 0, .slice none 0 0], .agg #[.slice none 0 0, .int .i64 0, .slice none 0 0]], []⟩ 8 (by kernel_rfl) (by kernel_rfl) (by kernel_rfl) (by kernel_rfl)) ?_
  intro W base args ds gs before hval0 hW hcnd _
  have hval : ∀ (j : Nat) t v, Try.f4.params[j]? = some t → args[j]? = some v → Value.okWide Try.prog W .any base t v := hval0
  have hW' := hW
  obtain ⟨p, q, hA0, hV, rfl, hfz, hnd⟩ := hW
  have hA : DataW.TrodAll enc Try.prog W 0 (fun _ => true) true Try.f4.params.toList args.toList ds p := hA0
  rw [Try.params4] at hA hval
  obtain ⟨v0, vs0, d0, ds0, p0, q0, hargs, rfl, rfl, h0, r0⟩ := trodAll_cons hA
  obtain ⟨v1, vs1, d1, ds1, p1, q1, rfl, rfl, rfl, h1, r1⟩ := trodAll_cons r0
  obtain ⟨rfl, rfl, rfl⟩ := trodAll_nil r1
  obtain rfl : args = #[v0, v1] := by cases args; simp_all
  obtain ⟨rfl, rfl⟩ := trodVars_none hV
  have k0 := h0
  have lt0 : ∀ x ∈ p0, x.block < W.heap.size := by obtain ⟨m, hm⟩ := k0; exact DataW.trod_lt m _ _ _ hm
  obtain ⟨cs0, rfl, _⟩ := okWide_struct Try.underlying25 (hval 0 25 v0 rfl rfl)
  obtain ⟨e0, g0⟩ : ∃ a, RdTab W cs0.toList a := by obtain ⟨fuel, hf⟩ := h0; exact rdTab_trod enc W 0 _ true fuel _ _ hf
  obtain ⟨A_x0, A_m0, A_d0, A_x2, A_m2, A_d2, hcs0, _⟩ := id g0
  obtain rfl : cs0 = #[.slice A_x0 A_m0 A_d0, .int .i64 e0.phase, .slice A_x2 A_m2 A_d2] := by apply Array.toList_inj.1; rw [hcs0]
  have k1 := h1
  have lt1 : ∀ x ∈ p1, x.block < W.heap.size := by obtain ⟨m, hm⟩ := k1; exact DataW.trod_lt m _ _ _ hm
  obtain ⟨cs1, rfl, _⟩ := okWide_struct Try.underlying25 (hval 1 25 v1 rfl rfl)
  obtain ⟨e1, g1⟩ : ∃ a, RdTab W cs1.toList a := by obtain ⟨fuel, hf⟩ := h1; exact rdTab_trod enc W 0 _ true fuel _ _ hf
  obtain ⟨D_x0, D_m0, D_d0, D_x2, D_m2, D_d2, hcs1, _⟩ := id g1
  obtain rfl : cs1 = #[.slice D_x0 D_m0 D_d0, .int .i64 e1.phase, .slice D_x2 D_m2 D_d2] := by apply Array.toList_inj.1; rw [hcs1]
  clear hA0 hval0
  refine (walk A_x0 A_m0 A_d0 A_x2 A_m2 A_d2 e0 D_x0 D_m0 D_d0 D_x2 D_m2 D_d2 e1 W g0 g1).mono fun e W' ⟨he, hg⟩ => ?_
  subst he
  exact ⟨_, rfl, _, _, _, [], _, [], hW', trodAll_mk1 (shut_bool Try.underlying4 _), (trodAll_cons_mk (Below.trod laidOut (by kernel_rfl) (of_decide_eq_true (by kernel_rfl)) k0 hg lt0) (trodAll_cons_mk (Below.trod laidOut (by kernel_rfl) (of_decide_eq_true (by kernel_rfl)) k1 hg lt1) trodAll_mk0)), rfl, hg.frame _, fun h => by cases h⟩

theorem over : Rows.fnExactSameTabRow.holds Try.pinned (OpenSpec.ofChange Rows.fnExactSameTabSpec) :=
  OpenClaim.holds_of_wide 4 Try.f4 rfl rfl rfl rfl rfl rfl rfl ⟨rfl, rfl, rfl, rfl, rfl⟩ rfl rfl rfl rfl rfl (by kernel_rfl) Try.func4 (by kernel_rfl)
    (of_decide_eq_true (by kernel_rfl)) (by unfold Func.isWrapper; first | (rw [if_pos (by decide +kernel)]; kernel_rfl) | (rw [if_neg (by decide +kernel)]; exact ⟨rfl, rfl⟩))
    (fun os started H enc _ => lifted os started H enc)

end Go.Proofs.Ytfgicjglinmclab.fnExactSameTab

namespace Go.Proofs.Ytfgicjglinmclab
theorem FnExactSameTab_holds : Rows.FnExactSameTabSaid := fnExactSameTab.over
#print axioms FnExactSameTab_holds
end Go.Proofs.Ytfgicjglinmclab
