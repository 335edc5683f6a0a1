/- For all bytes and every row, PutRow answers as the specification; it writes into no argument and keeps nothing of one; its answer owns its memory, behind another call too. (A tied card: the package-level tables that its row lists start as the program's text lays them.) -/
import Derived.Test.YtbeiocngiippgabDoorCards
import Derived.Test.YtbeiocngiippgabDoorTie
import Derived.WalkKit
import Derived.ProofKit
import Derived.OpenShut
import Derived.ShutString
import Derived.ChangeOld
import Derived.Below
import Derived.OpenVars
import Derived.Lay
import Derived.MakeChecks
import Derived.SevenTiedAt
import Derived.Stop.Joined
import Derived.Lib.SmallJoins
import Derived.Deep.RegionHeld3
import Derived.Deep.RegionHeldLaw
import Derived.Test.YtbeiocngiippgabDoorPutRx
import Derived.Test.YtbeiocngiippgabDoorTrodRec
import Derived.Test.YtbeiocngiippgabDoorExact
namespace Go.Proofs.YtbeiocngiippgabDoor.fnExactPutRow
open Go.ChangeShapes Go.WideShapes Go.ChangeAt Go.RowKit
set_option linter.unusedVariables false
set_option maxRecDepth 4000

theorem own : ownKnob Tryd.prog.godebug = none := by kernel_rfl
theorem laidOut : laidOutB Tryd.prog = true := by kernel_rfl

set_option maxHeartbeats 8000000 in
theorem walk (x0 : Option Addr) (len0 cap0 : Nat) (p0 : List UInt8) (A_x2 : Option Addr) (A_m2 A_d2 : Nat) (A_x4 : Option Addr) (A_m4 A_d4 : Nat) (p1 : RowD) (w : World) (h0 : RdB w [.slice x0 len0 cap0] p0) (h1 : RdRow w [.string p1.key, .int .i64 p1.t1, .slice A_x2 A_m2 A_d2, .int .i64 p1.t2, .slice A_x4 A_m4 A_d4, .int .i64 p1.has, .bool p1.aside] p1) (T : Hd (AllAt w)) :
    Calls Tryd.prog 3 #[.slice x0 len0 cap0, .agg #[.string p1.key, .int .i64 p1.t1, .slice A_x2 A_m2 A_d2, .int .i64 p1.t2, .slice A_x4 A_m4 A_d4, .int .i64 p1.has, .bool p1.aside]] w fun e w' => e = .returned (.bool true) ∧ Below w.heap.size w w' := by
  have HA1 : Hd (RdRow w [.string p1.key, .int .i64 p1.t1, .slice A_x2 A_m2 A_d2, .int .i64 p1.t2, .slice A_x4 A_m4 A_d4, .int .i64 p1.has, .bool p1.aside] p1) := ⟨h1⟩
  clear h1
  have HB0 : Hd (RdB w [.slice x0 len0 cap0] p0) := ⟨h0⟩
  have hlen0 : p0.length = len0 := (rdB_parts h0).2.1
  clear h0
  by_cases hb0 : 1048576 < (len0 : Int)
  · clear hlen0
    go_enter Tryd.func3, Tryd.ntmps3
    go_wp2_with fail
    go_ret
    exact ⟨rfl, below_lit w _⟩
  have HP0 : Hd (p0.length ≤ 1048576) := ⟨by omega⟩
  clear hlen0
  go_enter Tryd.func3, Tryd.ntmps3
  go_wp2_with fail
  obtain ⟨w1, hW1⟩ : ∃ W, w.alloc (.cells #[.string p1.key, .int .i64 p1.t1, .slice A_x2 A_m2 A_d2, .int .i64 p1.t2, .slice A_x4 A_m4 A_d4, .int .i64 p1.has, .bool p1.aside] 26) = W := ⟨_, rfl⟩
  obtain ⟨U0, hU0⟩ : ∃ U, w.heap.size + 1 = U := ⟨_, rfl⟩
  have B0 : Hd (Below w.heap.size w w1) := ⟨by rw [← hW1]; exact below_lit w _⟩
  have S0 : Hd (U0 ≤ w1.heap.size) := ⟨by rw [← hW1, ← hU0]; simp⟩
  have IV : Hd (w.heap.size + 1 = U0) := ⟨hU0⟩
  have A_0 : Hd (VR 26 RdRow (U0) w.heap.size [.string p1.key, .int .i64 p1.t1, .slice A_x2 A_m2 A_d2, .int .i64 p1.t2, .slice A_x4 A_m4 A_d4, .int .i64 p1.has, .bool p1.aside] (p1) w1) := ⟨by rw [← hW1, ← hU0]; exact vr_new rdRow_ok HA1.out⟩
  have Y0_0 : Hd (Lo (U0) RdB w1 [.slice x0 len0 cap0] (p0)) := ⟨lo_of (rdB_ok.below HB0.out B0.out) (by rw [← hW1, ← hU0]; simp)⟩
  rewrite [hW1]
  clear hW1 hU0 HA1 HB0
  refine (szRow_rd _ p1 1048576 _ (A_0.out.lo.rd rdRow_ok) ⟨by omega, by omega⟩).mono ?_
  rintro e w2 ⟨⟨l, rfl, hl1, hl2, hl3⟩, hB⟩
  have A_1 : Hd (VR 26 RdRow (U0) w.heap.size [.string p1.key, .int .i64 p1.t1, .slice A_x2 A_m2 A_d2, .int .i64 p1.t2, .slice A_x4 A_m4 A_d4, .int .i64 p1.has, .bool p1.aside] (p1) w2) := ⟨A_0.out.below (by have := S0.out; have := IV.out; omega) hB⟩
  have Y0_1 : Hd (Lo (U0) RdB w2 [.slice x0 len0 cap0] (p0)) := ⟨Y0_0.out.step (hB.mono (by have := S0.out; have := IV.out; omega))⟩
  have B1 : Hd (Below w.heap.size w w2) := ⟨Below.next B0.out hB⟩
  have S1 : Hd (U0 ≤ w2.heap.size) := ⟨Nat.le_trans S0.out hB.size⟩
  clear A_0 Y0_0 B0 S0
  clear hB
  by_cases hl0 : l < 0
  · go_wp2_with fail
    go_ret
    exact ⟨rfl, B1.out⟩
  have HP1 : Hd (wtRow p1 ≤ 1048576) := ⟨by have := hl3 (by omega); omega⟩
  clear hl1 hl2 hl3
  have hwt := putRow_wt (r := p1) HP0.out
  obtain ⟨r, hr⟩ : ∃ r, putRowB p0 p1 = r := ⟨_, rfl⟩
  rw [hr] at hwt
  have HR : Hd (putRowB p0 p1 = r ∧ wtB r ≤ 1073741824 ∧ 1 + ctB r ≤ 1073741824) := ⟨hr, hwt⟩
  clear hr hwt
  have c0 := cellsA A_1.out.box 0 rfl
  have c1 := cellsA A_1.out.box 1 rfl
  have c2 := cellsA A_1.out.box 2 rfl
  have c3 := cellsA A_1.out.box 3 rfl
  have c4 := cellsA A_1.out.box 4 rfl
  have c5 := cellsA A_1.out.box 5 rfl
  have c6 := cellsA A_1.out.box 6 rfl
  go_wp2_with fail
  clear c0 c1 c2 c3 c4 c5 c6
  obtain ⟨LW, hLW⟩ : ∃ L, w2.heap.size = L := ⟨_, rfl⟩
  have hLS : U0 ≤ LW := by rw [← hLW]; exact S1.out
  have KK : Hd (∀ w', Below w2.heap.size w2 w' → (w'.cell? ⟨w.heap.size, 0, none⟩ = some (.string p1.key) ∧ w'.cell? ⟨w.heap.size, 1, none⟩ = some (.int .i64 p1.t1) ∧ w'.cell? ⟨w.heap.size, 2, none⟩ = some (.slice A_x2 A_m2 A_d2) ∧ w'.cell? ⟨w.heap.size, 3, none⟩ = some (.int .i64 p1.t2) ∧ w'.cell? ⟨w.heap.size, 4, none⟩ = some (.slice A_x4 A_m4 A_d4) ∧ w'.cell? ⟨w.heap.size, 5, none⟩ = some (.int .i64 p1.has) ∧ w'.cell? ⟨w.heap.size, 6, none⟩ = some (.bool p1.aside))) := ⟨fun w' hb => ⟨cell_below (cellsA A_1.out.box 0 rfl) hb, cell_below (cellsA A_1.out.box 1 rfl) hb, cell_below (cellsA A_1.out.box 2 rfl) hb, cell_below (cellsA A_1.out.box 3 rfl) hb, cell_below (cellsA A_1.out.box 4 rfl) hb, cell_below (cellsA A_1.out.box 5 rfl) hb, cell_below (cellsA A_1.out.box 6 rfl) hb⟩⟩
  have D0 : Hd (Below w2.heap.size w2 w2.drew) := ⟨(Below.refl _ w2).drew⟩
  have c0 := cellsA A_1.out.box 0 rfl
  have c1 := cellsA A_1.out.box 1 rfl
  have c2 := cellsA A_1.out.box 2 rfl
  have c3 := cellsA A_1.out.box 3 rfl
  have c4 := cellsA A_1.out.box 4 rfl
  have c5 := cellsA A_1.out.box 5 rfl
  have c6 := cellsA A_1.out.box 6 rfl
  go_region_held (fun w' => w'.cell? ⟨w.heap.size, 0, none⟩ = some (.string p1.key) ∧ w'.cell? ⟨w.heap.size, 1, none⟩ = some (.int .i64 p1.t1) ∧ w'.cell? ⟨w.heap.size, 2, none⟩ = some (.slice A_x2 A_m2 A_d2) ∧ w'.cell? ⟨w.heap.size, 3, none⟩ = some (.int .i64 p1.t2) ∧ w'.cell? ⟨w.heap.size, 4, none⟩ = some (.slice A_x4 A_m4 A_d4) ∧ w'.cell? ⟨w.heap.size, 5, none⟩ = some (.int .i64 p1.has) ∧ w'.cell? ⟨w.heap.size, 6, none⟩ = some (.bool p1.aside)) (first | (with_reducible exact KK.out _ D3.out) | (with_reducible exact KK.out _ D2.out) | (with_reducible exact KK.out _ D1.out) | (with_reducible exact KK.out _ D0.out))
    (first | (go_at_call 7; refine (specPutRow_rd ys0 ns0 cs0 p0 _ p1 _ R0_2.out R1_2.out (by have := HP0.out; omega) (by have := HP1.out; omega)).mono ?_; rintro e w3 ⟨⟨yW, nW, cW, rfl, hA9⟩, hB9⟩; have D3 : Hd (Below w2.heap.size w2 w3) := ⟨Below.next D2.out hB9⟩; have Z9 : Hd (RdB w3 [.slice yW nW cW] (putRowB p0 p1)) := (⟨hA9⟩); clear hB9 hA9) | (go_at_call 9; refine (toRow_rd _ p1 _ (rdRow_ok.below (A_1.out.lo.rd rdRow_ok) D1.out) (by have := HP1.out; omega)).mono ?_; rintro e wv2 ⟨⟨cs1, rfl, hN9⟩, hB9⟩; have D2 : Hd (Below w2.heap.size w2 wv2) := ⟨Below.next D1.out hB9⟩; have R0_2 : Hd (RdA wv2 [.slice ys0 ns0 cs0] (p0)) := ⟨rdA_ok.below R0_1.out hB9⟩; have R1_2 : Hd (RcRow wv2 cs1 (p1)) := (⟨by obtain ⟨F9, hE9, _⟩ := hN9; exact owRow_ok.rd hE9⟩); clear hB9 hN9) | (go_at_call 8; refine (toByteS_oa x0 len0 cap0 p0 _ (rdB_ok.below (Y0_1.out.rd rdB_ok) D0.out) (by have := HP0.out; unfold wtB; omega)).mono ?_; rintro e wv1 ⟨⟨ys0, ns0, cs0, rfl, hN9⟩, hB9⟩; have D1 : Hd (Below w2.heap.size w2 wv1) := ⟨Below.next D0.out hB9⟩; have R0_1 : Hd (RdA wv1 [.slice ys0 ns0 cs0] (p0)) := (⟨by obtain ⟨F9, hE9, _⟩ := hN9; exact owA_ok.rd hE9⟩); clear hB9 hN9))
  have hB : Below w2.heap.size w2 w3 := D3.out
  have hA := Z9.out
  clear Z9 KK D3 D2 D1 D0 R0_1 R0_2 R1_2 c0 c1 c2 c3 c4 c5 c6
  rw [HR.out.1] at hA
  have hLv : LW ≤ w3.heap.size := by rw [← hLW]; exact hB.size
  obtain ⟨EW, hU⟩ : ∃ U, w3.heap.size = U := ⟨_, rfl⟩
  have hZ : Lo (EW) RdB w3 [.slice yW nW cW] (r) := lo_of hA (Nat.le_of_eq hU)
  clear hA
  rw [hU] at hLv
  clear hLW
  have A_2 : Hd (VR 26 RdRow (U0) w.heap.size [.string p1.key, .int .i64 p1.t1, .slice A_x2 A_m2 A_d2, .int .i64 p1.t2, .slice A_x4 A_m4 A_d4, .int .i64 p1.has, .bool p1.aside] (p1) w3) := ⟨A_1.out.below (by have := S1.out; have := IV.out; omega) hB⟩
  have Y0_2 : Hd (Lo (U0) RdB w3 [.slice x0 len0 cap0] (p0)) := ⟨Y0_1.out.step (hB.mono (by have := S1.out; have := IV.out; omega))⟩
  have B2 : Hd (Below w.heap.size w w3) := ⟨Below.next B1.out hB⟩
  have S2 : Hd (U0 ≤ w3.heap.size) := ⟨Nat.le_trans S1.out hB.size⟩
  clear A_1 Y0_1 B1 S1
  clear hB
  have IV2 : Hd (w.heap.size + 1 = U0 ∧ U0 ≤ LW ∧ LW ≤ EW) := ⟨by have := IV.out; omega⟩
  clear IV hLS hLv
  have IV := IV2
  clear IV2
  have S3 : Hd (EW ≤ w3.heap.size) := ⟨by omega⟩
  clear S2 hU
  have W_0 : Hd (Lo (EW) RdB w3 [.slice yW nW cW] (r)) := ⟨hZ⟩
  clear hZ
  go_wp2_with fail
  obtain ⟨LZ0, hLZ0⟩ : ∃ L, w3.heap.size = L := ⟨_, rfl⟩
  have hLS : EW ≤ LZ0 := by rw [← hLZ0]; exact S3.out
  refine (toByteS_oa x0 len0 cap0 p0 _ (Y0_2.out.rd rdB_ok) (by have := HP0.out; unfold wtB; omega)).mono ?_
  rintro e w4 ⟨⟨y0, n0, c0, rfl, hN⟩, hB⟩
  rw [hLZ0] at hN
  obtain ⟨FZ0, hZ⟩ := so_new owA_ok hN
  clear hN
  have hLv : LZ0 ≤ w4.heap.size := by rw [← hLZ0]; exact hB.size
  obtain ⟨EZ0, hU⟩ : ∃ U, w4.heap.size = U := ⟨_, rfl⟩
  rw [hU] at hZ hLv
  clear hLZ0
  have A_3 : Hd (VR 26 RdRow (U0) w.heap.size [.string p1.key, .int .i64 p1.t1, .slice A_x2 A_m2 A_d2, .int .i64 p1.t2, .slice A_x4 A_m4 A_d4, .int .i64 p1.has, .bool p1.aside] (p1) w4) := ⟨A_2.out.below (by have := S3.out; have := IV.out; omega) hB⟩
  have Y0_3 : Hd (Lo (U0) RdB w4 [.slice x0 len0 cap0] (p0)) := ⟨Y0_2.out.step (hB.mono (by have := S3.out; have := IV.out; omega))⟩
  have W_1 : Hd (Lo (EW) RdB w4 [.slice yW nW cW] (r)) := ⟨W_0.out.step (hB.mono (by have := S3.out; have := IV.out; omega))⟩
  have B4 : Hd (Below w.heap.size w w4) := ⟨Below.next B2.out hB⟩
  have S4 : Hd (EW ≤ w4.heap.size) := ⟨Nat.le_trans S3.out hB.size⟩
  clear A_2 Y0_2 W_0 B2 S3
  clear hB
  have IV2 : Hd (w.heap.size + 1 = U0 ∧ U0 ≤ LW ∧ LW ≤ EW ∧ EW ≤ LZ0 ∧ LZ0 ≤ EZ0) := ⟨by have := IV.out; omega⟩
  clear IV hLS hLv
  have IV := IV2
  clear IV2
  have S5 : Hd (EZ0 ≤ w4.heap.size) := ⟨by omega⟩
  clear S4 hU
  have Z0_0 : Hd (SO OwA LZ0 (EZ0) [.slice y0 n0 c0] FZ0 (p0) w4) := ⟨hZ⟩
  clear hZ
  have c0 := cellsA A_3.out.box 0 rfl
  have c1 := cellsA A_3.out.box 1 rfl
  have c2 := cellsA A_3.out.box 2 rfl
  have c3 := cellsA A_3.out.box 3 rfl
  have c4 := cellsA A_3.out.box 4 rfl
  have c5 := cellsA A_3.out.box 5 rfl
  have c6 := cellsA A_3.out.box 6 rfl
  go_wp2_with fail
  clear c0 c1 c2 c3 c4 c5 c6
  obtain ⟨LX, hLX⟩ : ∃ L, w4.heap.size = L := ⟨_, rfl⟩
  have hLS : EZ0 ≤ LX := by rw [← hLX]; exact S5.out
  refine (toRow_rd _ p1 _ (A_3.out.lo.rd rdRow_ok) (by have := HP1.out; omega)).mono ?_
  rintro e w5 ⟨⟨csr, rfl, hA⟩, hB⟩
  rw [hLX] at hA
  obtain ⟨F9, hE9, _⟩ := id hA
  have hA8 := hE9
  simp only [OwRow] at hA8
  obtain ⟨X_x2, X_m2, X_d2, X_x4, X_m4, X_d4, _, _, rfl, _⟩ := hA8
  clear hE9
  have hLv : LX ≤ w5.heap.size := by rw [← hLX]; exact hB.size
  clear hLX
  have A_4 : Hd (VR 26 RdRow (U0) w.heap.size [.string p1.key, .int .i64 p1.t1, .slice A_x2 A_m2 A_d2, .int .i64 p1.t2, .slice A_x4 A_m4 A_d4, .int .i64 p1.has, .bool p1.aside] (p1) w5) := ⟨A_3.out.below (by have := S5.out; have := IV.out; omega) hB⟩
  have Y0_4 : Hd (Lo (U0) RdB w5 [.slice x0 len0 cap0] (p0)) := ⟨Y0_3.out.step (hB.mono (by have := S5.out; have := IV.out; omega))⟩
  have W_2 : Hd (Lo (EW) RdB w5 [.slice yW nW cW] (r)) := ⟨W_1.out.step (hB.mono (by have := S5.out; have := IV.out; omega))⟩
  have Z0_1 : Hd (SO OwA LZ0 (EZ0) [.slice y0 n0 c0] FZ0 (p0) w5) := ⟨Z0_0.out.below owA_ok hB⟩
  have B6 : Hd (Below w.heap.size w w5) := ⟨Below.next B4.out hB⟩
  have S6 : Hd (EZ0 ≤ w5.heap.size) := ⟨Nat.le_trans S5.out hB.size⟩
  clear A_3 Y0_3 W_1 Z0_0 B4 S5
  clear hB
  obtain ⟨bX, hb9⟩ : ∃ b, w5.heap.size = b := ⟨_, rfl⟩
  obtain ⟨w6, hW9⟩ : ∃ W, w5.alloc (.cells #[.string p1.key, .int .i64 p1.t1, .slice X_x2 X_m2 X_d2, .int .i64 p1.t2, .slice X_x4 X_m4 X_d4, .int .i64 p1.has, .bool p1.aside] 32) = W := ⟨_, rfl⟩
  have hBx : Below w5.heap.size w5 w6 := by rw [← hW9]; exact below_lit _ _
  have hsz : bX + 1 ≤ w6.heap.size := by rw [← hW9, ← hb9]; simp
  have hLb : LX ≤ bX := by rw [← hb9]; exact hLv
  obtain ⟨FX, hX⟩ := vo_new (T := 32) owRow_ok hA hLv
  rw [hb9] at hX
  have hX2 : VO 32 OwRow LX (bX + 1) bX [.string p1.key, .int .i64 p1.t1, .slice X_x2 X_m2 X_d2, .int .i64 p1.t2, .slice X_x4 X_m4 X_d4, .int .i64 p1.has, .bool p1.aside] FX (p1) w6 := by rw [← hW9]; exact hX
  clear hX
  clear hA
  have HW9 : Hd (w5.alloc (.cells #[.string p1.key, .int .i64 p1.t1, .slice X_x2 X_m2 X_d2, .int .i64 p1.t2, .slice X_x4 X_m4 X_d4, .int .i64 p1.has, .bool p1.aside] 32) = w6 ∧ w5.heap.size = bX) := ⟨hW9, hb9⟩
  clear hW9 hb9
  have A_5 : Hd (VR 26 RdRow (U0) w.heap.size [.string p1.key, .int .i64 p1.t1, .slice A_x2 A_m2 A_d2, .int .i64 p1.t2, .slice A_x4 A_m4 A_d4, .int .i64 p1.has, .bool p1.aside] (p1) w6) := ⟨A_4.out.below (by have := S6.out; have := IV.out; omega) hBx⟩
  have Y0_5 : Hd (Lo (U0) RdB w6 [.slice x0 len0 cap0] (p0)) := ⟨Y0_4.out.step (hBx.mono (by have := S6.out; have := IV.out; omega))⟩
  have W_3 : Hd (Lo (EW) RdB w6 [.slice yW nW cW] (r)) := ⟨W_2.out.step (hBx.mono (by have := S6.out; have := IV.out; omega))⟩
  have Z0_2 : Hd (SO OwA LZ0 (EZ0) [.slice y0 n0 c0] FZ0 (p0) w6) := ⟨Z0_1.out.below owA_ok hBx⟩
  have B7 : Hd (Below w.heap.size w w6) := ⟨Below.next B6.out hBx⟩
  have S7 : Hd (EZ0 ≤ w6.heap.size) := ⟨Nat.le_trans S6.out hBx.size⟩
  clear A_4 Y0_4 W_2 Z0_1 B6 S6
  clear hBx
  have IV2 : Hd (w.heap.size + 1 = U0 ∧ U0 ≤ LW ∧ LW ≤ EW ∧ EW ≤ LZ0 ∧ LZ0 ≤ EZ0 ∧ EZ0 ≤ LX ∧ LX ≤ bX) := ⟨by have := IV.out; omega⟩
  clear IV hLS hLb hLv
  have IV := IV2
  clear IV2
  have S8 : Hd (bX + 1 ≤ w6.heap.size) := ⟨hsz⟩
  clear S7 hsz
  have X_0 : Hd (VO 32 OwRow LX (bX + 1) bX [.string p1.key, .int .i64 p1.t1, .slice X_x2 X_m2 X_d2, .int .i64 p1.t2, .slice X_x4 X_m4 X_d4, .int .i64 p1.has, .bool p1.aside] FX (p1) w6) := ⟨hX2⟩
  clear hX2
  have hW9 := HW9.out.1
  have hb9 := HW9.out.2
  have c0 := cellsA X_0.out.box 0 rfl
  have c1 := cellsA X_0.out.box 1 rfl
  have c2 := cellsA X_0.out.box 2 rfl
  have c3 := cellsA X_0.out.box 3 rfl
  have c4 := cellsA X_0.out.box 4 rfl
  have c5 := cellsA X_0.out.box 5 rfl
  have c6 := cellsA X_0.out.box 6 rfl
  go_wp2_with fail
  clear hW9 hb9 HW9 c0 c1 c2 c3 c4 c5 c6
  obtain ⟨LG, hLG⟩ : ∃ L, w6.heap.size = L := ⟨_, rfl⟩
  have hLS : bX + 1 ≤ LG := by rw [← hLG]; exact S8.out
  refine (implPutRow_rd y0 n0 c0 p0 _ p1 _ (owA_ok.rd Z0_2.out.own) (owRow_ok.rd X_0.out.own) (by have := HP0.out; omega) (by have := HP1.out; omega) ⟨T.out.below B7.out⟩).mono ?_
  rintro e w7 ⟨⟨yG, nG, cG, rfl, hA⟩, hB⟩
  rw [HR.out.1] at hA
  have hLv : LG ≤ w7.heap.size := by rw [← hLG]; exact hB.size
  rw [hLG] at hA
  obtain ⟨FG, hZ⟩ := so_new owB_ok hA
  clear hA
  obtain ⟨EG, hU⟩ : ∃ U, w7.heap.size = U := ⟨_, rfl⟩
  rw [hU] at hZ
  rw [hU] at hLv
  clear hLG
  have A_6 : Hd (VR 26 RdRow (U0) w.heap.size [.string p1.key, .int .i64 p1.t1, .slice A_x2 A_m2 A_d2, .int .i64 p1.t2, .slice A_x4 A_m4 A_d4, .int .i64 p1.has, .bool p1.aside] (p1) w7) := ⟨A_5.out.below (by have := S8.out; have := IV.out; omega) hB⟩
  have Y0_6 : Hd (Lo (U0) RdB w7 [.slice x0 len0 cap0] (p0)) := ⟨Y0_5.out.step (hB.mono (by have := S8.out; have := IV.out; omega))⟩
  have W_4 : Hd (Lo (EW) RdB w7 [.slice yW nW cW] (r)) := ⟨W_3.out.step (hB.mono (by have := S8.out; have := IV.out; omega))⟩
  have Z0_3 : Hd (SO OwA LZ0 (EZ0) [.slice y0 n0 c0] FZ0 (p0) w7) := ⟨Z0_2.out.below owA_ok hB⟩
  have X_1 : Hd (VO 32 OwRow LX (bX + 1) bX [.string p1.key, .int .i64 p1.t1, .slice X_x2 X_m2 X_d2, .int .i64 p1.t2, .slice X_x4 X_m4 X_d4, .int .i64 p1.has, .bool p1.aside] FX (p1) w7) := ⟨X_0.out.below owRow_ok hB⟩
  have B9 : Hd (Below w.heap.size w w7) := ⟨Below.next B7.out hB⟩
  have S9 : Hd (bX + 1 ≤ w7.heap.size) := ⟨Nat.le_trans S8.out hB.size⟩
  clear A_5 Y0_5 W_3 Z0_2 X_0 B7 S8
  clear hB
  have IV2 : Hd (w.heap.size + 1 = U0 ∧ U0 ≤ LW ∧ LW ≤ EW ∧ EW ≤ LZ0 ∧ LZ0 ≤ EZ0 ∧ EZ0 ≤ LX ∧ LX ≤ bX ∧ bX + 1 ≤ LG ∧ LG ≤ EG) := ⟨by have := IV.out; omega⟩
  clear IV hLS hLv
  have IV := IV2
  clear IV2
  have S10 : Hd (EG ≤ w7.heap.size) := ⟨by omega⟩
  clear S9 hU
  have G_0 : Hd (SO OwB LG (EG) [.slice yG nG cG] FG (r) w7) := ⟨hZ⟩
  clear hZ
  go_wp2_with fail
  refine (eqByteS_rd yG nG cG yW nW cW (r) _ (owB_ok.rd G_0.out.own) (W_4.out.rd rdB_ok) (HR.out.2.1)).mono ?_
  rintro e w8 ⟨rfl, hB⟩
  have A_7 : Hd (VR 26 RdRow (U0) w.heap.size [.string p1.key, .int .i64 p1.t1, .slice A_x2 A_m2 A_d2, .int .i64 p1.t2, .slice A_x4 A_m4 A_d4, .int .i64 p1.has, .bool p1.aside] (p1) w8) := ⟨A_6.out.below (by have := S10.out; have := IV.out; omega) hB⟩
  have Y0_7 : Hd (Lo (U0) RdB w8 [.slice x0 len0 cap0] (p0)) := ⟨Y0_6.out.step (hB.mono (by have := S10.out; have := IV.out; omega))⟩
  have W_5 : Hd (Lo (EW) RdB w8 [.slice yW nW cW] (r)) := ⟨W_4.out.step (hB.mono (by have := S10.out; have := IV.out; omega))⟩
  have Z0_4 : Hd (SO OwA LZ0 (EZ0) [.slice y0 n0 c0] FZ0 (p0) w8) := ⟨Z0_3.out.below owA_ok hB⟩
  have X_2 : Hd (VO 32 OwRow LX (bX + 1) bX [.string p1.key, .int .i64 p1.t1, .slice X_x2 X_m2 X_d2, .int .i64 p1.t2, .slice X_x4 X_m4 X_d4, .int .i64 p1.has, .bool p1.aside] FX (p1) w8) := ⟨X_1.out.below owRow_ok hB⟩
  have G_1 : Hd (SO OwB LG (EG) [.slice yG nG cG] FG (r) w8) := ⟨G_0.out.below owB_ok hB⟩
  have B11 : Hd (Below w.heap.size w w8) := ⟨Below.next B9.out hB⟩
  have S11 : Hd (EG ≤ w8.heap.size) := ⟨Nat.le_trans S10.out hB.size⟩
  clear A_6 Y0_6 W_4 Z0_3 X_1 G_0 B9 S10
  clear hB
  go_wp2_with fail
  refine (toByteS_oa x0 len0 cap0 p0 _ (Y0_7.out.rd rdB_ok) (by have := HP0.out; unfold wtB; omega)).mono ?_
  rintro e w9 ⟨⟨yq0, nq0, cq0, rfl, hN⟩, hB⟩
  have hT : RdA w9 [.slice yq0 nq0 cq0] p0 := by obtain ⟨F9, hE9, _⟩ := hN; exact owA_ok.rd hE9
  clear hN
  have A_8 : Hd (VR 26 RdRow (U0) w.heap.size [.string p1.key, .int .i64 p1.t1, .slice A_x2 A_m2 A_d2, .int .i64 p1.t2, .slice A_x4 A_m4 A_d4, .int .i64 p1.has, .bool p1.aside] (p1) w9) := ⟨A_7.out.below (by have := S11.out; have := IV.out; omega) hB⟩
  have Y0_8 : Hd (Lo (U0) RdB w9 [.slice x0 len0 cap0] (p0)) := ⟨Y0_7.out.step (hB.mono (by have := S11.out; have := IV.out; omega))⟩
  have W_6 : Hd (Lo (EW) RdB w9 [.slice yW nW cW] (r)) := ⟨W_5.out.step (hB.mono (by have := S11.out; have := IV.out; omega))⟩
  have Z0_5 : Hd (SO OwA LZ0 (EZ0) [.slice y0 n0 c0] FZ0 (p0) w9) := ⟨Z0_4.out.below owA_ok hB⟩
  have X_3 : Hd (VO 32 OwRow LX (bX + 1) bX [.string p1.key, .int .i64 p1.t1, .slice X_x2 X_m2 X_d2, .int .i64 p1.t2, .slice X_x4 X_m4 X_d4, .int .i64 p1.has, .bool p1.aside] FX (p1) w9) := ⟨X_2.out.below owRow_ok hB⟩
  have G_2 : Hd (SO OwB LG (EG) [.slice yG nG cG] FG (r) w9) := ⟨G_1.out.below owB_ok hB⟩
  have B12 : Hd (Below w.heap.size w w9) := ⟨Below.next B11.out hB⟩
  have S12 : Hd (EG ≤ w9.heap.size) := ⟨Nat.le_trans S11.out hB.size⟩
  clear A_7 Y0_7 W_5 Z0_4 X_2 G_1 B11 S11
  clear hB
  have Tq0 : Hd (RdA w9 [.slice yq0 nq0 cq0] (p0)) := ⟨hT⟩
  clear hT
  go_wp2_with fail
  refine (eqByteS_rd y0 n0 c0 yq0 nq0 cq0 p0 _ (rdA_w (owA_ok.rd Z0_5.out.own)) (rdA_w Tq0.out) (by have := HP0.out; unfold wtB; omega)).mono ?_
  rintro e w10 ⟨rfl, hB⟩
  clear Tq0
  have A_9 : Hd (VR 26 RdRow (U0) w.heap.size [.string p1.key, .int .i64 p1.t1, .slice A_x2 A_m2 A_d2, .int .i64 p1.t2, .slice A_x4 A_m4 A_d4, .int .i64 p1.has, .bool p1.aside] (p1) w10) := ⟨A_8.out.below (by have := S12.out; have := IV.out; omega) hB⟩
  have Y0_9 : Hd (Lo (U0) RdB w10 [.slice x0 len0 cap0] (p0)) := ⟨Y0_8.out.step (hB.mono (by have := S12.out; have := IV.out; omega))⟩
  have W_7 : Hd (Lo (EW) RdB w10 [.slice yW nW cW] (r)) := ⟨W_6.out.step (hB.mono (by have := S12.out; have := IV.out; omega))⟩
  have Z0_6 : Hd (SO OwA LZ0 (EZ0) [.slice y0 n0 c0] FZ0 (p0) w10) := ⟨Z0_5.out.below owA_ok hB⟩
  have X_4 : Hd (VO 32 OwRow LX (bX + 1) bX [.string p1.key, .int .i64 p1.t1, .slice X_x2 X_m2 X_d2, .int .i64 p1.t2, .slice X_x4 X_m4 X_d4, .int .i64 p1.has, .bool p1.aside] FX (p1) w10) := ⟨X_3.out.below owRow_ok hB⟩
  have G_3 : Hd (SO OwB LG (EG) [.slice yG nG cG] FG (r) w10) := ⟨G_2.out.below owB_ok hB⟩
  have B13 : Hd (Below w.heap.size w w10) := ⟨Below.next B12.out hB⟩
  have S13 : Hd (EG ≤ w10.heap.size) := ⟨Nat.le_trans S12.out hB.size⟩
  clear A_8 Y0_8 W_6 Z0_5 X_3 G_2 B12 S12
  clear hB
  have c0 := cellsA X_4.out.box 0 rfl
  have c1 := cellsA X_4.out.box 1 rfl
  have c2 := cellsA X_4.out.box 2 rfl
  have c3 := cellsA X_4.out.box 3 rfl
  have c4 := cellsA X_4.out.box 4 rfl
  have c5 := cellsA X_4.out.box 5 rfl
  have c6 := cellsA X_4.out.box 6 rfl
  have g0 := cellsA A_9.out.box 0 rfl
  have g1 := cellsA A_9.out.box 1 rfl
  have g2 := cellsA A_9.out.box 2 rfl
  have g3 := cellsA A_9.out.box 3 rfl
  have g4 := cellsA A_9.out.box 4 rfl
  have g5 := cellsA A_9.out.box 5 rfl
  have g6 := cellsA A_9.out.box 6 rfl
  go_wp2_with fail
  clear c0 c1 c2 c3 c4 c5 c6 g0 g1 g2 g3 g4 g5 g6
  have KK : Hd (∀ w', Below w10.heap.size w10 w' → (w'.cell? ⟨bX, 0, none⟩ = some (.string p1.key) ∧ w'.cell? ⟨bX, 1, none⟩ = some (.int .i64 p1.t1) ∧ w'.cell? ⟨bX, 2, none⟩ = some (.slice X_x2 X_m2 X_d2) ∧ w'.cell? ⟨bX, 3, none⟩ = some (.int .i64 p1.t2) ∧ w'.cell? ⟨bX, 4, none⟩ = some (.slice X_x4 X_m4 X_d4) ∧ w'.cell? ⟨bX, 5, none⟩ = some (.int .i64 p1.has) ∧ w'.cell? ⟨bX, 6, none⟩ = some (.bool p1.aside) ∧ w'.cell? ⟨w.heap.size, 0, none⟩ = some (.string p1.key) ∧ w'.cell? ⟨w.heap.size, 1, none⟩ = some (.int .i64 p1.t1) ∧ w'.cell? ⟨w.heap.size, 2, none⟩ = some (.slice A_x2 A_m2 A_d2) ∧ w'.cell? ⟨w.heap.size, 3, none⟩ = some (.int .i64 p1.t2) ∧ w'.cell? ⟨w.heap.size, 4, none⟩ = some (.slice A_x4 A_m4 A_d4) ∧ w'.cell? ⟨w.heap.size, 5, none⟩ = some (.int .i64 p1.has) ∧ w'.cell? ⟨w.heap.size, 6, none⟩ = some (.bool p1.aside))) := ⟨fun w' hb => ⟨cell_below (cellsA X_4.out.box 0 rfl) hb, cell_below (cellsA X_4.out.box 1 rfl) hb, cell_below (cellsA X_4.out.box 2 rfl) hb, cell_below (cellsA X_4.out.box 3 rfl) hb, cell_below (cellsA X_4.out.box 4 rfl) hb, cell_below (cellsA X_4.out.box 5 rfl) hb, cell_below (cellsA X_4.out.box 6 rfl) hb, cell_below (cellsA A_9.out.box 0 rfl) hb, cell_below (cellsA A_9.out.box 1 rfl) hb, cell_below (cellsA A_9.out.box 2 rfl) hb, cell_below (cellsA A_9.out.box 3 rfl) hb, cell_below (cellsA A_9.out.box 4 rfl) hb, cell_below (cellsA A_9.out.box 5 rfl) hb, cell_below (cellsA A_9.out.box 6 rfl) hb⟩⟩
  have D0 : Hd (Below w10.heap.size w10 w10.drew) := ⟨(Below.refl _ w10).drew⟩
  have c0 := cellsA X_4.out.box 0 rfl
  have c1 := cellsA X_4.out.box 1 rfl
  have c2 := cellsA X_4.out.box 2 rfl
  have c3 := cellsA X_4.out.box 3 rfl
  have c4 := cellsA X_4.out.box 4 rfl
  have c5 := cellsA X_4.out.box 5 rfl
  have c6 := cellsA X_4.out.box 6 rfl
  have g0 := cellsA A_9.out.box 0 rfl
  have g1 := cellsA A_9.out.box 1 rfl
  have g2 := cellsA A_9.out.box 2 rfl
  have g3 := cellsA A_9.out.box 3 rfl
  have g4 := cellsA A_9.out.box 4 rfl
  have g5 := cellsA A_9.out.box 5 rfl
  have g6 := cellsA A_9.out.box 6 rfl
  go_region_held (fun w' => w'.cell? ⟨bX, 0, none⟩ = some (.string p1.key) ∧ w'.cell? ⟨bX, 1, none⟩ = some (.int .i64 p1.t1) ∧ w'.cell? ⟨bX, 2, none⟩ = some (.slice X_x2 X_m2 X_d2) ∧ w'.cell? ⟨bX, 3, none⟩ = some (.int .i64 p1.t2) ∧ w'.cell? ⟨bX, 4, none⟩ = some (.slice X_x4 X_m4 X_d4) ∧ w'.cell? ⟨bX, 5, none⟩ = some (.int .i64 p1.has) ∧ w'.cell? ⟨bX, 6, none⟩ = some (.bool p1.aside) ∧ w'.cell? ⟨w.heap.size, 0, none⟩ = some (.string p1.key) ∧ w'.cell? ⟨w.heap.size, 1, none⟩ = some (.int .i64 p1.t1) ∧ w'.cell? ⟨w.heap.size, 2, none⟩ = some (.slice A_x2 A_m2 A_d2) ∧ w'.cell? ⟨w.heap.size, 3, none⟩ = some (.int .i64 p1.t2) ∧ w'.cell? ⟨w.heap.size, 4, none⟩ = some (.slice A_x4 A_m4 A_d4) ∧ w'.cell? ⟨w.heap.size, 5, none⟩ = some (.int .i64 p1.has) ∧ w'.cell? ⟨w.heap.size, 6, none⟩ = some (.bool p1.aside)) (first | (with_reducible exact KK.out _ D2.out) | (with_reducible exact KK.out _ D1.out) | (with_reducible exact KK.out _ D0.out))
    (first | (go_at_call 12; refine (eqRow_rd _ cs9 p1 _ (rdRow_ok.below (rcRow_w (owRow_ok.rd X_4.out.own)) D1.out) R9.out (by have := HP1.out; omega)).mono ?_; rintro e w11 ⟨rfl, hB9⟩; have D2 : Hd (Below w10.heap.size w10 w11) := ⟨Below.next D1.out hB9⟩; clear hB9) | (go_at_call 9; refine (toRow_rd _ p1 _ (rdRow_ok.below (A_9.out.lo.rd rdRow_ok) D0.out) (by have := HP1.out; omega)).mono ?_; rintro e wv ⟨⟨cs9, rfl, hN9⟩, hB9⟩; have D1 : Hd (Below w10.heap.size w10 wv) := ⟨Below.next D0.out hB9⟩; have R9 : Hd (RdRow wv cs9 p1) := (⟨by obtain ⟨F9, hE9, _⟩ := hN9; exact rcRow_w (owRow_ok.rd hE9)⟩); clear hB9 hN9))
  have hB : Below w10.heap.size w10 w11 := D2.out
  clear D2 D1 D0 KK R9 c0 c1 c2 c3 c4 c5 c6 g0 g1 g2 g3 g4 g5 g6
  have A_10 : Hd (VR 26 RdRow (U0) w.heap.size [.string p1.key, .int .i64 p1.t1, .slice A_x2 A_m2 A_d2, .int .i64 p1.t2, .slice A_x4 A_m4 A_d4, .int .i64 p1.has, .bool p1.aside] (p1) w11) := ⟨A_9.out.below (by have := S13.out; have := IV.out; omega) hB⟩
  have Y0_10 : Hd (Lo (U0) RdB w11 [.slice x0 len0 cap0] (p0)) := ⟨Y0_9.out.step (hB.mono (by have := S13.out; have := IV.out; omega))⟩
  have W_8 : Hd (Lo (EW) RdB w11 [.slice yW nW cW] (r)) := ⟨W_7.out.step (hB.mono (by have := S13.out; have := IV.out; omega))⟩
  have Z0_7 : Hd (SO OwA LZ0 (EZ0) [.slice y0 n0 c0] FZ0 (p0) w11) := ⟨Z0_6.out.below owA_ok hB⟩
  have X_5 : Hd (VO 32 OwRow LX (bX + 1) bX [.string p1.key, .int .i64 p1.t1, .slice X_x2 X_m2 X_d2, .int .i64 p1.t2, .slice X_x4 X_m4 X_d4, .int .i64 p1.has, .bool p1.aside] FX (p1) w11) := ⟨X_4.out.below owRow_ok hB⟩
  have G_4 : Hd (SO OwB LG (EG) [.slice yG nG cG] FG (r) w11) := ⟨G_3.out.below owB_ok hB⟩
  have B14 : Hd (Below w.heap.size w w11) := ⟨Below.next B13.out hB⟩
  have S14 : Hd (EG ≤ w11.heap.size) := ⟨Nat.le_trans S13.out hB.size⟩
  clear A_9 Y0_9 W_7 Z0_6 X_4 G_3 B13 S13
  clear hB
  go_wp2_with fail
  have hcu : cuRow p1 ≤ 1048576 := Nat.le_trans (cuRow_wt p1) HP1.out
  refine (markByteS_oa y0 n0 c0 (1) (p0) FZ0 _ Z0_7.out.own (by have := HP0.out; have := HP1.out; first | omega | (unfold ctB; omega))).mono ?_
  rintro e w12 ⟨rfl, hO, hC⟩
  have hin : ∀ x, FZ0 x → LZ0 ≤ x ∧ x < EZ0 := Z0_7.out.in_
  have A_11 : Hd (VR 26 RdRow (U0) w.heap.size [.string p1.key, .int .i64 p1.t1, .slice A_x2 A_m2 A_d2, .int .i64 p1.t2, .slice A_x4 A_m4 A_d4, .int .i64 p1.has, .bool p1.aside] (p1) w12) := ⟨A_10.out.chg (by have := S14.out; have := IV.out; omega) hC (fun x hx => by have := hin x hx; have := IV.out; omega)⟩
  have Y0_11 : Hd (Lo (U0) RdB w12 [.slice x0 len0 cap0] (p0)) := ⟨Y0_10.out.step (hC.below (fun x hx => by have := hin x hx; have := IV.out; omega) (by have := S14.out; have := IV.out; omega))⟩
  have W_9 : Hd (Lo (EW) RdB w12 [.slice yW nW cW] (r)) := ⟨W_8.out.step (hC.below (fun x hx => by have := hin x hx; have := IV.out; omega) (by have := S14.out; have := IV.out; omega))⟩
  have Z0_8 : Hd (SO OwA LZ0 (EZ0) [.slice y0 n0 c0] FZ0 (mkB (1) (p0)) w12) := ⟨Z0_7.out.marked hO⟩
  have X_6 : Hd (VO 32 OwRow LX (bX + 1) bX [.string p1.key, .int .i64 p1.t1, .slice X_x2 X_m2 X_d2, .int .i64 p1.t2, .slice X_x4 X_m4 X_d4, .int .i64 p1.has, .bool p1.aside] FX (p1) w12) := ⟨X_5.out.chg owRow_ok hC (fun x hx => by have := hin x hx; have := IV.out; omega)⟩
  have G_5 : Hd (SO OwB LG (EG) [.slice yG nG cG] FG (r) w12) := ⟨G_4.out.chg owB_ok hC (fun x hx => by have := hin x hx; have := IV.out; omega)⟩
  have B15 : Hd (Below w.heap.size w w12) := ⟨B14.out.trans (hC.below (fun x hx => by have := hin x hx; have := IV.out; omega) B14.out.size)⟩
  have S15 : Hd (EG ≤ w12.heap.size) := ⟨Nat.le_trans S14.out hC.size⟩
  clear A_10 Y0_10 W_8 Z0_7 X_5 G_4 B14 S14
  clear hin hO hC
  have c0 := cellsA X_6.out.box 0 rfl
  have c1 := cellsA X_6.out.box 1 rfl
  have c2 := cellsA X_6.out.box 2 rfl
  have c3 := cellsA X_6.out.box 3 rfl
  have c4 := cellsA X_6.out.box 4 rfl
  have c5 := cellsA X_6.out.box 5 rfl
  have c6 := cellsA X_6.out.box 6 rfl
  go_wp2_with fail
  clear c0 c1 c2 c3 c4 c5 c6
  refine (markRow_ow _ FX (p1) (1 + ctB (p0)) _ X_6.out.own (by have := HP0.out; have := HP1.out; first | omega | (unfold ctB; omega))).mono ?_
  rintro e w13 ⟨rfl, hO, hC⟩
  have hin : ∀ x, FX x → LX ≤ x ∧ x < bX + 1 := X_6.out.in_
  have A_12 : Hd (VR 26 RdRow (U0) w.heap.size [.string p1.key, .int .i64 p1.t1, .slice A_x2 A_m2 A_d2, .int .i64 p1.t2, .slice A_x4 A_m4 A_d4, .int .i64 p1.has, .bool p1.aside] (p1) w13) := ⟨A_11.out.chg (by have := S15.out; have := IV.out; omega) hC (fun x hx => by have := hin x hx; have := IV.out; omega)⟩
  have Y0_12 : Hd (Lo (U0) RdB w13 [.slice x0 len0 cap0] (p0)) := ⟨Y0_11.out.step (hC.below (fun x hx => by have := hin x hx; have := IV.out; omega) (by have := S15.out; have := IV.out; omega))⟩
  have W_10 : Hd (Lo (EW) RdB w13 [.slice yW nW cW] (r)) := ⟨W_9.out.step (hC.below (fun x hx => by have := hin x hx; have := IV.out; omega) (by have := S15.out; have := IV.out; omega))⟩
  have Z0_9 : Hd (SO OwA LZ0 (EZ0) [.slice y0 n0 c0] FZ0 (mkB (1) (p0)) w13) := ⟨Z0_8.out.chg owA_ok hC (fun x hx => by have := hin x hx; have := IV.out; omega)⟩
  have X_7 : Hd (VO 32 OwRow LX (bX + 1) bX [.string p1.key, .int .i64 p1.t1, .slice X_x2 X_m2 X_d2, .int .i64 p1.t2, .slice X_x4 X_m4 X_d4, .int .i64 p1.has, .bool p1.aside] FX (mtRow (1 + ctB (p0)) (p1)) w13) := ⟨X_6.out.marked hO hC⟩
  have G_6 : Hd (SO OwB LG (EG) [.slice yG nG cG] FG (r) w13) := ⟨G_5.out.chg owB_ok hC (fun x hx => by have := hin x hx; have := IV.out; omega)⟩
  have B16 : Hd (Below w.heap.size w w13) := ⟨B15.out.trans (hC.below (fun x hx => by have := hin x hx; have := IV.out; omega) B15.out.size)⟩
  have S16 : Hd (EG ≤ w13.heap.size) := ⟨Nat.le_trans S15.out hC.size⟩
  clear A_11 Y0_11 W_9 Z0_8 X_6 G_5 B15 S15
  clear hin hO hC
  have hk0 : ¬ (((1 + ctB (p0) + cuRow (p1) : Nat) : Int) < 0) := by omega
  clear Z0_9
  clear X_7
  go_wp2_with fail
  clear hk0 hcu
  refine (eqByteS_rd yG nG cG yW nW cW (r) _ (owB_ok.rd G_6.out.own) (W_10.out.rd rdB_ok) (HR.out.2.1)).mono ?_
  rintro e w14 ⟨rfl, hB⟩
  have A_13 : Hd (VR 26 RdRow (U0) w.heap.size [.string p1.key, .int .i64 p1.t1, .slice A_x2 A_m2 A_d2, .int .i64 p1.t2, .slice A_x4 A_m4 A_d4, .int .i64 p1.has, .bool p1.aside] (p1) w14) := ⟨A_12.out.below (by have := S16.out; have := IV.out; omega) hB⟩
  have Y0_13 : Hd (Lo (U0) RdB w14 [.slice x0 len0 cap0] (p0)) := ⟨Y0_12.out.step (hB.mono (by have := S16.out; have := IV.out; omega))⟩
  have W_11 : Hd (Lo (EW) RdB w14 [.slice yW nW cW] (r)) := ⟨W_10.out.step (hB.mono (by have := S16.out; have := IV.out; omega))⟩
  have G_7 : Hd (SO OwB LG (EG) [.slice yG nG cG] FG (r) w14) := ⟨G_6.out.below owB_ok hB⟩
  have B17 : Hd (Below w.heap.size w w14) := ⟨Below.next B16.out hB⟩
  have S17 : Hd (EG ≤ w14.heap.size) := ⟨Nat.le_trans S16.out hB.size⟩
  clear A_12 Y0_12 W_10 G_6 B16 S16
  clear hB
  go_wp2_with fail
  refine (markByteS_ow yG nG cG (1) (r) FG _ G_7.out.own (by exact HR.out.2.2)).mono ?_
  rintro e w15 ⟨rfl, hO, hC⟩
  have hin : ∀ x, FG x → LG ≤ x ∧ x < EG := G_7.out.in_
  have A_14 : Hd (VR 26 RdRow (U0) w.heap.size [.string p1.key, .int .i64 p1.t1, .slice A_x2 A_m2 A_d2, .int .i64 p1.t2, .slice A_x4 A_m4 A_d4, .int .i64 p1.has, .bool p1.aside] (p1) w15) := ⟨A_13.out.chg (by have := S17.out; have := IV.out; omega) hC (fun x hx => by have := hin x hx; have := IV.out; omega)⟩
  have Y0_14 : Hd (Lo (U0) RdB w15 [.slice x0 len0 cap0] (p0)) := ⟨Y0_13.out.step (hC.below (fun x hx => by have := hin x hx; have := IV.out; omega) (by have := S17.out; have := IV.out; omega))⟩
  have W_12 : Hd (Lo (EW) RdB w15 [.slice yW nW cW] (r)) := ⟨W_11.out.step (hC.below (fun x hx => by have := hin x hx; have := IV.out; omega) (by have := S17.out; have := IV.out; omega))⟩
  have G_8 : Hd (SO OwB LG (EG) [.slice yG nG cG] FG (mkB (1) (r)) w15) := ⟨G_7.out.marked hO⟩
  have B18 : Hd (Below w.heap.size w w15) := ⟨B17.out.trans (hC.below (fun x hx => by have := hin x hx; have := IV.out; omega) B17.out.size)⟩
  have S18 : Hd (EG ≤ w15.heap.size) := ⟨Nat.le_trans S17.out hC.size⟩
  clear A_13 Y0_13 W_11 G_7 B17 S17
  clear hin hO hC
  go_wp2_with fail
  refine (heldByteS_rd yG nG cG (1) (r) _ (owB_ok.rd G_8.out.own) (by exact HR.out.2.2)).mono ?_
  rintro e w16 ⟨rfl, hB⟩
  have A_15 : Hd (VR 26 RdRow (U0) w.heap.size [.string p1.key, .int .i64 p1.t1, .slice A_x2 A_m2 A_d2, .int .i64 p1.t2, .slice A_x4 A_m4 A_d4, .int .i64 p1.has, .bool p1.aside] (p1) w16) := ⟨A_14.out.below (by have := S18.out; have := IV.out; omega) hB⟩
  have Y0_15 : Hd (Lo (U0) RdB w16 [.slice x0 len0 cap0] (p0)) := ⟨Y0_14.out.step (hB.mono (by have := S18.out; have := IV.out; omega))⟩
  have W_13 : Hd (Lo (EW) RdB w16 [.slice yW nW cW] (r)) := ⟨W_12.out.step (hB.mono (by have := S18.out; have := IV.out; omega))⟩
  have G_9 : Hd (SO OwB LG (EG) [.slice yG nG cG] FG (mkB (1) (r)) w16) := ⟨G_8.out.below owB_ok hB⟩
  have B19 : Hd (Below w.heap.size w w16) := ⟨Below.next B18.out hB⟩
  have S19 : Hd (EG ≤ w16.heap.size) := ⟨Nat.le_trans S18.out hB.size⟩
  clear A_14 Y0_14 W_12 G_8 B18 S18
  clear hB
  have hq : ¬ (((1 + ctB (r) : Nat) : Int) < 0) := by omega
  have hqm : (((1 + ctB (r) : Nat) : Int) != ((1 + ctB (r) : Nat) : Int)) = false := by simp
  go_wp2_with fail
  obtain ⟨LH, hLH⟩ : ∃ L, w16.heap.size = L := ⟨_, rfl⟩
  have hLS : EG ≤ LH := by rw [← hLH]; exact S19.out
  have KK : Hd (∀ w', Below w16.heap.size w16 w' → (w'.cell? ⟨w.heap.size, 0, none⟩ = some (.string p1.key) ∧ w'.cell? ⟨w.heap.size, 1, none⟩ = some (.int .i64 p1.t1) ∧ w'.cell? ⟨w.heap.size, 2, none⟩ = some (.slice A_x2 A_m2 A_d2) ∧ w'.cell? ⟨w.heap.size, 3, none⟩ = some (.int .i64 p1.t2) ∧ w'.cell? ⟨w.heap.size, 4, none⟩ = some (.slice A_x4 A_m4 A_d4) ∧ w'.cell? ⟨w.heap.size, 5, none⟩ = some (.int .i64 p1.has) ∧ w'.cell? ⟨w.heap.size, 6, none⟩ = some (.bool p1.aside))) := ⟨fun w' hb => ⟨cell_below (cellsA A_15.out.box 0 rfl) hb, cell_below (cellsA A_15.out.box 1 rfl) hb, cell_below (cellsA A_15.out.box 2 rfl) hb, cell_below (cellsA A_15.out.box 3 rfl) hb, cell_below (cellsA A_15.out.box 4 rfl) hb, cell_below (cellsA A_15.out.box 5 rfl) hb, cell_below (cellsA A_15.out.box 6 rfl) hb⟩⟩
  have D0 : Hd (Below w16.heap.size w16 w16.drew) := ⟨(Below.refl _ w16).drew⟩
  have c0 := cellsA A_15.out.box 0 rfl
  have c1 := cellsA A_15.out.box 1 rfl
  have c2 := cellsA A_15.out.box 2 rfl
  have c3 := cellsA A_15.out.box 3 rfl
  have c4 := cellsA A_15.out.box 4 rfl
  have c5 := cellsA A_15.out.box 5 rfl
  have c6 := cellsA A_15.out.box 6 rfl
  go_region_held (fun w' => w'.cell? ⟨w.heap.size, 0, none⟩ = some (.string p1.key) ∧ w'.cell? ⟨w.heap.size, 1, none⟩ = some (.int .i64 p1.t1) ∧ w'.cell? ⟨w.heap.size, 2, none⟩ = some (.slice A_x2 A_m2 A_d2) ∧ w'.cell? ⟨w.heap.size, 3, none⟩ = some (.int .i64 p1.t2) ∧ w'.cell? ⟨w.heap.size, 4, none⟩ = some (.slice A_x4 A_m4 A_d4) ∧ w'.cell? ⟨w.heap.size, 5, none⟩ = some (.int .i64 p1.has) ∧ w'.cell? ⟨w.heap.size, 6, none⟩ = some (.bool p1.aside)) (first | (with_reducible exact KK.out _ D3.out) | (with_reducible exact KK.out _ D2.out) | (with_reducible exact KK.out _ D1.out) | (with_reducible exact KK.out _ D0.out))
    (first | (go_at_call 10; refine (implPutRow_rd ys0 ns0 cs0 p0 _ p1 _ R0_2.out R1_2.out (by have := HP0.out; omega) (by have := HP1.out; omega) ⟨T.out.below (Below.trans B19.out (Below.mono D2.out (by have := B19.out.size; exact this)))⟩).mono ?_; rintro e w17 ⟨⟨yH, nH, cH, rfl, hA9⟩, hB9⟩; have D3 : Hd (Below w16.heap.size w16 w17) := ⟨Below.next D2.out hB9⟩; have Z9 : Hd (New w16.heap.size OwB w17 [.slice yH nH cH] (putRowB p0 p1)) := (⟨by obtain ⟨F8, hE8, hF8⟩ := hA9; exact ⟨F8, hE8, fun x hx => Nat.le_trans D2.out.size (hF8 x hx)⟩⟩); clear hB9 hA9) | (go_at_call 9; refine (toRow_rd _ p1 _ (rdRow_ok.below (A_15.out.lo.rd rdRow_ok) D1.out) (by have := HP1.out; omega)).mono ?_; rintro e wv2 ⟨⟨cs1, rfl, hN9⟩, hB9⟩; have D2 : Hd (Below w16.heap.size w16 wv2) := ⟨Below.next D1.out hB9⟩; have R0_2 : Hd (RdA wv2 [.slice ys0 ns0 cs0] (p0)) := ⟨rdA_ok.below R0_1.out hB9⟩; have R1_2 : Hd (RcRow wv2 cs1 (p1)) := (⟨by obtain ⟨F9, hE9, _⟩ := hN9; exact owRow_ok.rd hE9⟩); clear hB9 hN9) | (go_at_call 8; refine (toByteS_oa x0 len0 cap0 p0 _ (rdB_ok.below (Y0_15.out.rd rdB_ok) D0.out) (by have := HP0.out; unfold wtB; omega)).mono ?_; rintro e wv1 ⟨⟨ys0, ns0, cs0, rfl, hN9⟩, hB9⟩; have D1 : Hd (Below w16.heap.size w16 wv1) := ⟨Below.next D0.out hB9⟩; have R0_1 : Hd (RdA wv1 [.slice ys0 ns0 cs0] (p0)) := (⟨by obtain ⟨F9, hE9, _⟩ := hN9; exact owA_ok.rd hE9⟩); clear hB9 hN9))
  have hB : Below w16.heap.size w16 w17 := D3.out
  have hA := Z9.out
  clear Z9 KK D3 D2 D1 D0 R0_1 R0_2 R1_2 c0 c1 c2 c3 c4 c5 c6
  rw [HR.out.1] at hA
  have hLv : LH ≤ w17.heap.size := by rw [← hLH]; exact hB.size
  rw [hLH] at hA
  obtain ⟨FH, hZ⟩ := so_new owB_ok hA
  clear hA
  obtain ⟨EH, hU⟩ : ∃ U, w17.heap.size = U := ⟨_, rfl⟩
  rw [hU] at hZ
  rw [hU] at hLv
  clear hLH
  have A_16 : Hd (VR 26 RdRow (U0) w.heap.size [.string p1.key, .int .i64 p1.t1, .slice A_x2 A_m2 A_d2, .int .i64 p1.t2, .slice A_x4 A_m4 A_d4, .int .i64 p1.has, .bool p1.aside] (p1) w17) := ⟨A_15.out.below (by have := S19.out; have := IV.out; omega) hB⟩
  have Y0_16 : Hd (Lo (U0) RdB w17 [.slice x0 len0 cap0] (p0)) := ⟨Y0_15.out.step (hB.mono (by have := S19.out; have := IV.out; omega))⟩
  have W_14 : Hd (Lo (EW) RdB w17 [.slice yW nW cW] (r)) := ⟨W_13.out.step (hB.mono (by have := S19.out; have := IV.out; omega))⟩
  have G_10 : Hd (SO OwB LG (EG) [.slice yG nG cG] FG (mkB (1) (r)) w17) := ⟨G_9.out.below owB_ok hB⟩
  have B20 : Hd (Below w.heap.size w w17) := ⟨Below.next B19.out hB⟩
  have S20 : Hd (EG ≤ w17.heap.size) := ⟨Nat.le_trans S19.out hB.size⟩
  clear A_15 Y0_15 W_13 G_9 B19 S19
  clear hB
  have IV2 : Hd (w.heap.size + 1 = U0 ∧ U0 ≤ LW ∧ LW ≤ EW ∧ EW ≤ LZ0 ∧ LZ0 ≤ EZ0 ∧ EZ0 ≤ LX ∧ LX ≤ bX ∧ bX + 1 ≤ LG ∧ LG ≤ EG ∧ EG ≤ LH ∧ LH ≤ EH) := ⟨by have := IV.out; omega⟩
  clear IV hLS hLv
  have IV := IV2
  clear IV2
  have S21 : Hd (EH ≤ w17.heap.size) := ⟨by omega⟩
  clear S20 hU
  have H_0 : Hd (SO OwB LH (EH) [.slice yH nH cH] FH (r) w17) := ⟨hZ⟩
  clear hZ
  go_wp2_with fail
  refine (eqByteS_rd yH nH cH yW nW cW (r) _ (owB_ok.rd H_0.out.own) (W_14.out.rd rdB_ok) (HR.out.2.1)).mono ?_
  rintro e w18 ⟨rfl, hB⟩
  have A_17 : Hd (VR 26 RdRow (U0) w.heap.size [.string p1.key, .int .i64 p1.t1, .slice A_x2 A_m2 A_d2, .int .i64 p1.t2, .slice A_x4 A_m4 A_d4, .int .i64 p1.has, .bool p1.aside] (p1) w18) := ⟨A_16.out.below (by have := S21.out; have := IV.out; omega) hB⟩
  have Y0_17 : Hd (Lo (U0) RdB w18 [.slice x0 len0 cap0] (p0)) := ⟨Y0_16.out.step (hB.mono (by have := S21.out; have := IV.out; omega))⟩
  have W_15 : Hd (Lo (EW) RdB w18 [.slice yW nW cW] (r)) := ⟨W_14.out.step (hB.mono (by have := S21.out; have := IV.out; omega))⟩
  have G_11 : Hd (SO OwB LG (EG) [.slice yG nG cG] FG (mkB (1) (r)) w18) := ⟨G_10.out.below owB_ok hB⟩
  have H_1 : Hd (SO OwB LH (EH) [.slice yH nH cH] FH (r) w18) := ⟨H_0.out.below owB_ok hB⟩
  have B22 : Hd (Below w.heap.size w w18) := ⟨Below.next B20.out hB⟩
  have S22 : Hd (EH ≤ w18.heap.size) := ⟨Nat.le_trans S21.out hB.size⟩
  clear A_16 Y0_16 W_14 G_10 H_0 B20 S21
  clear hB
  go_wp2_with fail
  clear H_1
  clear W_15
  refine (heldByteS_rd yG nG cG (1) (r) _ (owB_ok.rd G_11.out.own) (by exact HR.out.2.2)).mono ?_
  rintro e w19 ⟨rfl, hB⟩
  have A_18 : Hd (VR 26 RdRow (U0) w.heap.size [.string p1.key, .int .i64 p1.t1, .slice A_x2 A_m2 A_d2, .int .i64 p1.t2, .slice A_x4 A_m4 A_d4, .int .i64 p1.has, .bool p1.aside] (p1) w19) := ⟨A_17.out.below (by have := S22.out; have := IV.out; omega) hB⟩
  have Y0_18 : Hd (Lo (U0) RdB w19 [.slice x0 len0 cap0] (p0)) := ⟨Y0_17.out.step (hB.mono (by have := S22.out; have := IV.out; omega))⟩
  have G_12 : Hd (SO OwB LG (EG) [.slice yG nG cG] FG (mkB (1) (r)) w19) := ⟨G_11.out.below owB_ok hB⟩
  have B23 : Hd (Below w.heap.size w w19) := ⟨Below.next B22.out hB⟩
  have S23 : Hd (EH ≤ w19.heap.size) := ⟨Nat.le_trans S22.out hB.size⟩
  clear A_17 Y0_17 G_11 B22 S22
  clear hB
  go_wp2_with fail
  go_ret
  exact ⟨rfl, B23.out⟩

set_option maxRecDepth 100000 in
theorem lifted (os : Os) (started : os.Started) (H : Type) (enc : TypeId × Value → H) :
    ReturnsInHanded {} Tryd.checked os 3 .any (fun w args => (Rows.fnExactPutRowSpec.pre enc Tryd.prog Tryd.f3 Rows.fnExactPutRowRow.domain false w args ∧ laidMetH Tryd.prog Rows.fnExactPutRowRow.laid w) ∧ sizedMet enc Tryd.prog Tryd.f3 (OpenSpec.ofChange Rows.fnExactPutRowSpec) false w args)
      (Rows.fnExactPutRowSpec.post enc Tryd.prog Tryd.f3 false true false false) := by
  refine returnsInHanded_of_change_and (C := Tryd.checked) (X := fun w _ => laidMetH Tryd.prog Rows.fnExactPutRowRow.laid w) (fun _ _ _ hh h => h.of_heap hh) own started (by kernel_rfl) Tryd.func3
    (ChangeSpec.witness_shaped (enc := enc) (C := Tryd.checked) (os := os) (X := fun w _ => laidMetH Tryd.prog Rows.fnExactPutRowRow.laid w) false (World.laidAll Tryd.prog os Rows.fnExactPutRowRow.laid) #[.slice none 0 0, .agg #[.string ByteArray.empty, .int .i64 0, .slice none 0 0, .int .i64 0, .slice none 0 0, .int .i64 0, .bool false]] 8 (World.laidAll_os _ _ _)
      (World.shaped_of_ZipB (by kernel_rfl) (by kernel_rfl)) (by kernel_rfl) (by kernel_rfl) (by kernel_rfl)
      (by rw [MakeChecks.laidMetH_plain _ _ _ (by kernel_rfl)]; exact laidMet_laidAll _ (by kernel_rfl) (by kernel_rfl))) ?_
  intro W base args ds gs before hval0 hW _ _ hL _
  have hval : ∀ (j : Nat) t v, Tryd.f3.params[j]? = some t → args[j]? = some v → Value.okWide Tryd.prog W .any base t v := hval0
  have hW' := hW
  obtain ⟨p, q, hA0, hV, rfl, hfz, hnd⟩ := hW
  have hA : DataW.TrodAll enc Tryd.prog W 0 (fun _ => true) true Tryd.f3.params.toList args.toList ds p := hA0
  rw [Tryd.params3] at hA hval
  obtain ⟨v0, vs0, d0, ds0, p0, q0, hargs, rfl, rfl, h0, r0⟩ := trodAll_cons hA
  obtain ⟨v1, vs1, d1, ds1, p1, q1, rfl, rfl, rfl, h1, r1⟩ := trodAll_cons r0
  obtain ⟨rfl, rfl, rfl⟩ := trodAll_nil r1
  obtain rfl : args = #[v0, v1] := by cases args; simp_all
  have hV1 : DataW.TrodVars enc Tryd.prog W (fun _ => true) Rows.fnExactPutRowSpec.vars gs q := hV
  obtain ⟨gv1, gv2, gv3, gv4, rfl⟩ : ∃ gv1 gv2 gv3 gv4, gs = [gv1, gv2, gv3, gv4] := by
    match gs, (vars_length hV1 : gs.length = 4) with
    | [gv1, gv2, gv3, gv4], _ => exact ⟨gv1, gv2, gv3, gv4, rfl⟩
  have k0 := h0
  have lt0 : ∀ x ∈ p0, x.block < W.heap.size := by obtain ⟨m, hm⟩ := k0; exact DataW.trod_lt m _ _ _ hm
  obtain ⟨x0, len0, cap0, rfl⟩ := okWide_slice Tryd.underlying22 (hval 0 22 v0 rfl rfl)
  obtain ⟨e0, g0⟩ : ∃ a, RdB W [.slice x0 len0 cap0] a := by obtain ⟨fuel, hf⟩ := h0; exact rdB_trod' enc W 0 _ true fuel _ _ hf
  have k1 := h1
  have lt1 : ∀ x ∈ p1, x.block < W.heap.size := by obtain ⟨m, hm⟩ := k1; exact DataW.trod_lt m _ _ _ hm
  obtain ⟨cs1, rfl, _⟩ := okWide_struct Tryd.underlying26 (hval 1 26 v1 rfl rfl)
  obtain ⟨e1, g1⟩ : ∃ a, RdRow W cs1.toList a := by obtain ⟨fuel, hf⟩ := h1; exact rdRow_trod enc W 0 _ true fuel _ _ hf
  obtain ⟨A_x2, A_m2, A_d2, A_x4, A_m4, A_d4, hcs1, _⟩ := id g1
  obtain rfl : cs1 = #[.string e1.key, .int .i64 e1.t1, .slice A_x2 A_m2 A_d2, .int .i64 e1.t2, .slice A_x4 A_m4 A_d4, .int .i64 e1.has, .bool e1.aside] := by apply Array.toList_inj.1; rw [hcs1]
  clear hA0 hval0
  refine (walk x0 len0 cap0 e0 A_x2 A_m2 A_d2 A_x4 A_m4 A_d4 e1 W g0 g1 ⟨all_of hL⟩).mono fun e W' ⟨he, hg⟩ => ?_
  subst he
  exact ⟨_, rfl, _, _, _, [], _, q, hW', trodAll_mk1 (shut_bool Tryd.underlying4 _), (trodAll_cons_mk (Below.trod laidOut (by kernel_rfl) (of_decide_eq_true (by kernel_rfl)) k0 hg lt0) (trodAll_cons_mk (Below.trod laidOut (by kernel_rfl) (of_decide_eq_true (by kernel_rfl)) k1 hg lt1) trodAll_mk0)), Below.trodVars laidOut hg (by kernel_rfl) hV1, hg.frame _, fun h => by cases h⟩

theorem over : Rows.fnExactPutRowRow.holds Tryd.pinned (OpenSpec.ofChange Rows.fnExactPutRowSpec) :=
  OpenClaim.holds_of_wide 3 Tryd.f3 rfl rfl rfl rfl rfl rfl rfl ⟨rfl, rfl, rfl, rfl, rfl⟩ rfl rfl rfl rfl rfl (by kernel_rfl) Tryd.func3 (by kernel_rfl)
    (of_decide_eq_true (by kernel_rfl)) (by unfold Func.isWrapper; first | (rw [if_pos (by decide +kernel)]; kernel_rfl) | (rw [if_neg (by decide +kernel)]; exact ⟨rfl, rfl⟩))
    (fun os started H enc _ => lifted os started H enc)

theorem plain (f : FuncId) (fn : Func) (hf : Tryd.pinned.checked.prog.funcNamed Rows.fnExactPutRowRow.func = some f) (hfn : Tryd.pinned.checked.prog.funcs[f]? = some fn) :
    true = Tryd.pinned.checked.prog.looks [] ∧ ∀ (j : Nat) t, fn.params[j]? = some t → Tryd.pinned.checked.prog.wantsStandIn t = false := by
  obtain rfl : f = 3 := Option.some.inj ((show Tryd.prog.funcNamed Rows.fnExactPutRowRow.func = some 3 by kernel_rfl).symm.trans hf) |>.symm
  obtain rfl : fn = Tryd.f3 := (Option.some.inj (Tryd.func3.symm.trans hfn)).symm
  refine ⟨by kernel_rfl, fun j t ht => ?_⟩
  rw [Tryd.params3] at ht
  have hm : t ∈ [22, 26] := by first | simpa using Array.mem_of_getElem? ht | (have h := Array.mem_of_getElem? ht; simp at h ⊢; rcases h with h | h | h | h <;> simp [h])
  have hall : ([22, 26].all fun u => !Tryd.prog.wantsStandIn u) = true := by kernel_rfl
  exact (show Tryd.prog.wantsStandIn t = false by simpa using List.all_eq_true.1 hall t hm)

end Go.Proofs.YtbeiocngiippgabDoor.fnExactPutRow

namespace Go.Proofs.YtbeiocngiippgabDoor
theorem fnExactPutRowCard_holds : Rows.FnExactPutRowCardSaid :=
  Claim7.holds_tied_plain_at .later [] _ _ _ _ fnExactPutRow.over (fun _ h => by cases h) (by kernel_rfl) (fun _ h => by cases h) fnExactPutRow_row_tie rfl ⟨rfl, rfl⟩ (by kernel_rfl) rfl fnExactPutRow.plain (by kernel_rfl)
#print axioms fnExactPutRowCard_holds
end Go.Proofs.YtbeiocngiippgabDoor
