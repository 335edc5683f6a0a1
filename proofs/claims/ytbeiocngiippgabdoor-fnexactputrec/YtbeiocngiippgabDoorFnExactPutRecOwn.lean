/- For all numbers and every record, PutRec answers as the specification; it writes into no argument and keeps nothing of one; its answer owns its memory, behind another call too. (A tied card: the package-level tables that its row lists start as the program's text lays them.) -/
import Derived.Test.YtbeiocngiippgabDoorCards
import Derived.Test.YtbeiocngiippgabDoorTie
import Derived.WalkKit
import Derived.ProofKit
import Derived.OpenShut
import Derived.ShutString
import Derived.ChangeOld
import Derived.Below
import Derived.OpenVars
import Derived.Lay
import Derived.MakeChecks
import Derived.SevenTiedAt
import Derived.Stop.Joined
import Derived.Lib.SmallJoins
import Derived.Deep.RegionHeld3
import Derived.Deep.RegionHeldLaw
import Derived.Test.YtbeiocngiippgabDoorPutEx
import Derived.Test.YtbeiocngiippgabDoorTrodRec
import Derived.Test.YtbeiocngiippgabDoorExact
import Derived.Test.YtbeiocngiippgabDoorDpRecT
namespace Go.Proofs.YtbeiocngiippgabDoor.fnExactPutRec
open Go.ChangeShapes Go.WideShapes Go.ChangeAt Go.RowKit
set_option linter.unusedVariables false
set_option maxRecDepth 4000

theorem own : ownKnob Tryd.prog.godebug = none := by kernel_rfl
theorem laidOut : laidOutB Tryd.prog = true := by kernel_rfl

set_option maxHeartbeats 8000000 in
theorem walk (a0 : Int) (w0 : (Lit.int .i64 a0).wf = true) (a1 : Int) (w1 : (Lit.int .i64 a1).wf = true) (A_x3 : Option Addr) (A_m3 A_d3 : Nat) (A_x5 : Option Addr) (A_m5 A_d5 : Nat) (p2 : RecD) (w : World) (h2 : RdRec w [.int .i64 p2.kind, .string p2.r.key, .int .i64 p2.r.t1, .slice A_x3 A_m3 A_d3, .int .i64 p2.r.t2, .slice A_x5 A_m5 A_d5, .int .i64 p2.r.has, .bool p2.r.aside, .string p2.key, .int .i64 p2.n, .int .i64 p2.who, .int .i64 p2.seq, .int .i64 p2.code] p2) (T : Hd (AllAt w)) :
    Calls Tryd.prog 5 #[.int .i64 a0, .int .i64 a1, .agg #[.int .i64 p2.kind, .string p2.r.key, .int .i64 p2.r.t1, .slice A_x3 A_m3 A_d3, .int .i64 p2.r.t2, .slice A_x5 A_m5 A_d5, .int .i64 p2.r.has, .bool p2.r.aside, .string p2.key, .int .i64 p2.n, .int .i64 p2.who, .int .i64 p2.seq, .int .i64 p2.code]] w fun e w' => e = .returned (.bool true) ∧ Below w.heap.size w w' := by
  have HA2 : Hd (RdRec w [.int .i64 p2.kind, .string p2.r.key, .int .i64 p2.r.t1, .slice A_x3 A_m3 A_d3, .int .i64 p2.r.t2, .slice A_x5 A_m5 A_d5, .int .i64 p2.r.has, .bool p2.r.aside, .string p2.key, .int .i64 p2.n, .int .i64 p2.who, .int .i64 p2.seq, .int .i64 p2.code] p2) := ⟨h2⟩
  clear h2
  go_enter Tryd.func5, Tryd.ntmps5
  go_wp2_with fail
  obtain ⟨w1, hW1⟩ : ∃ W, w.alloc (.cells #[.int .i64 p2.kind, .string p2.r.key, .int .i64 p2.r.t1, .slice A_x3 A_m3 A_d3, .int .i64 p2.r.t2, .slice A_x5 A_m5 A_d5, .int .i64 p2.r.has, .bool p2.r.aside, .string p2.key, .int .i64 p2.n, .int .i64 p2.who, .int .i64 p2.seq, .int .i64 p2.code] 43) = W := ⟨_, rfl⟩
  obtain ⟨U0, hU0⟩ : ∃ U, w.heap.size + 1 = U := ⟨_, rfl⟩
  have B0 : Hd (Below w.heap.size w w1) := ⟨by rw [← hW1]; exact below_lit w _⟩
  have S0 : Hd (U0 ≤ w1.heap.size) := ⟨by rw [← hW1, ← hU0]; simp⟩
  have IV : Hd (w.heap.size + 1 = U0) := ⟨hU0⟩
  have A_0 : Hd (VR 43 RdRec (U0) w.heap.size [.int .i64 p2.kind, .string p2.r.key, .int .i64 p2.r.t1, .slice A_x3 A_m3 A_d3, .int .i64 p2.r.t2, .slice A_x5 A_m5 A_d5, .int .i64 p2.r.has, .bool p2.r.aside, .string p2.key, .int .i64 p2.n, .int .i64 p2.who, .int .i64 p2.seq, .int .i64 p2.code] (p2) w1) := ⟨by rw [← hW1, ← hU0]; exact vr_new rdRec_ok HA2.out⟩
  rewrite [hW1]
  clear hW1 hU0 HA2
  refine (szRec_rd _ p2 1048576 _ (A_0.out.lo.rd rdRec_ok) ⟨by omega, by omega⟩).mono ?_
  rintro e w2 ⟨⟨l, rfl, hl1, hl2, hl3⟩, hB⟩
  have A_1 : Hd (VR 43 RdRec (U0) w.heap.size [.int .i64 p2.kind, .string p2.r.key, .int .i64 p2.r.t1, .slice A_x3 A_m3 A_d3, .int .i64 p2.r.t2, .slice A_x5 A_m5 A_d5, .int .i64 p2.r.has, .bool p2.r.aside, .string p2.key, .int .i64 p2.n, .int .i64 p2.who, .int .i64 p2.seq, .int .i64 p2.code] (p2) w2) := ⟨A_0.out.below (by have := S0.out; have := IV.out; omega) hB⟩
  have B1 : Hd (Below w.heap.size w w2) := ⟨Below.next B0.out hB⟩
  have S1 : Hd (U0 ≤ w2.heap.size) := ⟨Nat.le_trans S0.out hB.size⟩
  clear A_0 B0 S0
  clear hB
  by_cases hl0 : l < 0
  · go_wp2_with fail
    go_ret
    exact ⟨rfl, B1.out⟩
  have HP2 : Hd (wtRec p2 ≤ 1048576) := ⟨by have := hl3 (by omega); omega⟩
  clear hl1 hl2 hl3
  have hwt := putRec_wt a0 a1 p2
  obtain ⟨r, hr⟩ : ∃ r, putRecB a0 a1 p2 = r := ⟨_, rfl⟩
  rw [hr] at hwt
  have HR : Hd (putRecB a0 a1 p2 = r ∧ wtB r ≤ 1073741824 ∧ 1 + ctB r ≤ 1073741824) := ⟨hr, hwt⟩
  clear hr hwt
  have c0 := cellsA A_1.out.box 0 rfl
  have c1 := cellsA A_1.out.box 1 rfl
  have c2 := cellsA A_1.out.box 2 rfl
  have c3 := cellsA A_1.out.box 3 rfl
  have c4 := cellsA A_1.out.box 4 rfl
  have c5 := cellsA A_1.out.box 5 rfl
  have c6 := cellsA A_1.out.box 6 rfl
  have c7 := cellsA A_1.out.box 7 rfl
  have c8 := cellsA A_1.out.box 8 rfl
  have c9 := cellsA A_1.out.box 9 rfl
  have c10 := cellsA A_1.out.box 10 rfl
  have c11 := cellsA A_1.out.box 11 rfl
  have c12 := cellsA A_1.out.box 12 rfl
  go_wp2_with fail
  clear c0 c1 c2 c3 c4 c5 c6 c7 c8 c9 c10 c11 c12
  refine (toRec_rd _ p2 _ (A_1.out.lo.rd rdRec_ok) (by have := HP2.out; omega)).mono ?_
  rintro e w3 ⟨⟨css2, rfl, hN⟩, hB⟩
  have hT : RcRec w3 css2 p2 := by obtain ⟨F9, hE9, _⟩ := hN; exact owRec_ok.rd hE9
  clear hN
  have A_2 : Hd (VR 43 RdRec (U0) w.heap.size [.int .i64 p2.kind, .string p2.r.key, .int .i64 p2.r.t1, .slice A_x3 A_m3 A_d3, .int .i64 p2.r.t2, .slice A_x5 A_m5 A_d5, .int .i64 p2.r.has, .bool p2.r.aside, .string p2.key, .int .i64 p2.n, .int .i64 p2.who, .int .i64 p2.seq, .int .i64 p2.code] (p2) w3) := ⟨A_1.out.below (by have := S1.out; have := IV.out; omega) hB⟩
  have B2 : Hd (Below w.heap.size w w3) := ⟨Below.next B1.out hB⟩
  have S2 : Hd (U0 ≤ w3.heap.size) := ⟨Nat.le_trans S1.out hB.size⟩
  clear A_1 B1 S1
  clear hB
  have Ts2 : Hd (RcRec w3 css2 (p2)) := ⟨hT⟩
  clear hT
  go_wp2_with fail
  obtain ⟨LW, hLW⟩ : ∃ L, w3.heap.size = L := ⟨_, rfl⟩
  have hLS : U0 ≤ LW := by rw [← hLW]; exact S2.out
  refine ((specPutRec_rd a0 a1 _ p2 _ Ts2.out (by have := HP2.out; omega))).mono ?_
  rintro e w4 ⟨⟨yW, nW, cW, rfl, hA⟩, hB⟩
  rw [HR.out.1] at hA
  clear Ts2
  have hLv : LW ≤ w4.heap.size := by rw [← hLW]; exact hB.size
  obtain ⟨EW, hU⟩ : ∃ U, w4.heap.size = U := ⟨_, rfl⟩
  have hZ : Lo (EW) RdB w4 [.slice yW nW cW] (r) := lo_of hA (Nat.le_of_eq hU)
  clear hA
  rw [hU] at hLv
  clear hLW
  have A_3 : Hd (VR 43 RdRec (U0) w.heap.size [.int .i64 p2.kind, .string p2.r.key, .int .i64 p2.r.t1, .slice A_x3 A_m3 A_d3, .int .i64 p2.r.t2, .slice A_x5 A_m5 A_d5, .int .i64 p2.r.has, .bool p2.r.aside, .string p2.key, .int .i64 p2.n, .int .i64 p2.who, .int .i64 p2.seq, .int .i64 p2.code] (p2) w4) := ⟨A_2.out.below (by have := S2.out; have := IV.out; omega) hB⟩
  have B3 : Hd (Below w.heap.size w w4) := ⟨Below.next B2.out hB⟩
  have S3 : Hd (U0 ≤ w4.heap.size) := ⟨Nat.le_trans S2.out hB.size⟩
  clear A_2 B2 S2
  clear hB
  have IV2 : Hd (w.heap.size + 1 = U0 ∧ U0 ≤ LW ∧ LW ≤ EW) := ⟨by have := IV.out; omega⟩
  clear IV hLS hLv
  have IV := IV2
  clear IV2
  have S4 : Hd (EW ≤ w4.heap.size) := ⟨by omega⟩
  clear S3 hU
  have W_0 : Hd (Lo (EW) RdB w4 [.slice yW nW cW] (r)) := ⟨hZ⟩
  clear hZ
  have c0 := cellsA A_3.out.box 0 rfl
  have c1 := cellsA A_3.out.box 1 rfl
  have c2 := cellsA A_3.out.box 2 rfl
  have c3 := cellsA A_3.out.box 3 rfl
  have c4 := cellsA A_3.out.box 4 rfl
  have c5 := cellsA A_3.out.box 5 rfl
  have c6 := cellsA A_3.out.box 6 rfl
  have c7 := cellsA A_3.out.box 7 rfl
  have c8 := cellsA A_3.out.box 8 rfl
  have c9 := cellsA A_3.out.box 9 rfl
  have c10 := cellsA A_3.out.box 10 rfl
  have c11 := cellsA A_3.out.box 11 rfl
  have c12 := cellsA A_3.out.box 12 rfl
  go_wp2_with fail
  clear c0 c1 c2 c3 c4 c5 c6 c7 c8 c9 c10 c11 c12
  obtain ⟨LX, hLX⟩ : ∃ L, w4.heap.size = L := ⟨_, rfl⟩
  have hLS : EW ≤ LX := by rw [← hLX]; exact S4.out
  refine (toRec_rd _ p2 _ (A_3.out.lo.rd rdRec_ok) (by have := HP2.out; omega)).mono ?_
  rintro e w5 ⟨⟨csr, rfl, hA⟩, hB⟩
  rw [hLX] at hA
  obtain ⟨F9, hE9, _⟩ := id hA
  have hA8 := hE9
  simp only [OwRec] at hA8
  obtain ⟨X_x3, X_m3, X_d3, X_x5, X_m5, X_d5, _, rfl, _⟩ := hA8
  clear hE9
  have hLv : LX ≤ w5.heap.size := by rw [← hLX]; exact hB.size
  clear hLX
  have A_4 : Hd (VR 43 RdRec (U0) w.heap.size [.int .i64 p2.kind, .string p2.r.key, .int .i64 p2.r.t1, .slice A_x3 A_m3 A_d3, .int .i64 p2.r.t2, .slice A_x5 A_m5 A_d5, .int .i64 p2.r.has, .bool p2.r.aside, .string p2.key, .int .i64 p2.n, .int .i64 p2.who, .int .i64 p2.seq, .int .i64 p2.code] (p2) w5) := ⟨A_3.out.below (by have := S4.out; have := IV.out; omega) hB⟩
  have W_1 : Hd (Lo (EW) RdB w5 [.slice yW nW cW] (r)) := ⟨W_0.out.step (hB.mono (by have := S4.out; have := IV.out; omega))⟩
  have B5 : Hd (Below w.heap.size w w5) := ⟨Below.next B3.out hB⟩
  have S5 : Hd (EW ≤ w5.heap.size) := ⟨Nat.le_trans S4.out hB.size⟩
  clear A_3 W_0 B3 S4
  clear hB
  obtain ⟨bX, hb9⟩ : ∃ b, w5.heap.size = b := ⟨_, rfl⟩
  obtain ⟨w6, hW9⟩ : ∃ W, w5.alloc (.cells #[.int .i64 p2.kind, .string p2.r.key, .int .i64 p2.r.t1, .slice X_x3 X_m3 X_d3, .int .i64 p2.r.t2, .slice X_x5 X_m5 X_d5, .int .i64 p2.r.has, .bool p2.r.aside, .string p2.key, .int .i64 p2.n, .int .i64 p2.who, .int .i64 p2.seq, .int .i64 p2.code] 47) = W := ⟨_, rfl⟩
  have hBx : Below w5.heap.size w5 w6 := by rw [← hW9]; exact below_lit _ _
  have hsz : bX + 1 ≤ w6.heap.size := by rw [← hW9, ← hb9]; simp
  have hLb : LX ≤ bX := by rw [← hb9]; exact hLv
  obtain ⟨FX, hX⟩ := vo_new (T := 47) owRec_ok hA hLv
  rw [hb9] at hX
  have hX2 : VO 47 OwRec LX (bX + 1) bX [.int .i64 p2.kind, .string p2.r.key, .int .i64 p2.r.t1, .slice X_x3 X_m3 X_d3, .int .i64 p2.r.t2, .slice X_x5 X_m5 X_d5, .int .i64 p2.r.has, .bool p2.r.aside, .string p2.key, .int .i64 p2.n, .int .i64 p2.who, .int .i64 p2.seq, .int .i64 p2.code] FX (p2) w6 := by rw [← hW9]; exact hX
  clear hX
  clear hA
  have HW9 : Hd (w5.alloc (.cells #[.int .i64 p2.kind, .string p2.r.key, .int .i64 p2.r.t1, .slice X_x3 X_m3 X_d3, .int .i64 p2.r.t2, .slice X_x5 X_m5 X_d5, .int .i64 p2.r.has, .bool p2.r.aside, .string p2.key, .int .i64 p2.n, .int .i64 p2.who, .int .i64 p2.seq, .int .i64 p2.code] 47) = w6 ∧ w5.heap.size = bX) := ⟨hW9, hb9⟩
  clear hW9 hb9
  have A_5 : Hd (VR 43 RdRec (U0) w.heap.size [.int .i64 p2.kind, .string p2.r.key, .int .i64 p2.r.t1, .slice A_x3 A_m3 A_d3, .int .i64 p2.r.t2, .slice A_x5 A_m5 A_d5, .int .i64 p2.r.has, .bool p2.r.aside, .string p2.key, .int .i64 p2.n, .int .i64 p2.who, .int .i64 p2.seq, .int .i64 p2.code] (p2) w6) := ⟨A_4.out.below (by have := S5.out; have := IV.out; omega) hBx⟩
  have W_2 : Hd (Lo (EW) RdB w6 [.slice yW nW cW] (r)) := ⟨W_1.out.step (hBx.mono (by have := S5.out; have := IV.out; omega))⟩
  have B6 : Hd (Below w.heap.size w w6) := ⟨Below.next B5.out hBx⟩
  have S6 : Hd (EW ≤ w6.heap.size) := ⟨Nat.le_trans S5.out hBx.size⟩
  clear A_4 W_1 B5 S5
  clear hBx
  have IV2 : Hd (w.heap.size + 1 = U0 ∧ U0 ≤ LW ∧ LW ≤ EW ∧ EW ≤ LX ∧ LX ≤ bX) := ⟨by have := IV.out; omega⟩
  clear IV hLS hLb hLv
  have IV := IV2
  clear IV2
  have S7 : Hd (bX + 1 ≤ w6.heap.size) := ⟨hsz⟩
  clear S6 hsz
  have X_0 : Hd (VO 47 OwRec LX (bX + 1) bX [.int .i64 p2.kind, .string p2.r.key, .int .i64 p2.r.t1, .slice X_x3 X_m3 X_d3, .int .i64 p2.r.t2, .slice X_x5 X_m5 X_d5, .int .i64 p2.r.has, .bool p2.r.aside, .string p2.key, .int .i64 p2.n, .int .i64 p2.who, .int .i64 p2.seq, .int .i64 p2.code] FX (p2) w6) := ⟨hX2⟩
  clear hX2
  have hW9 := HW9.out.1
  have hb9 := HW9.out.2
  have c0 := cellsA X_0.out.box 0 rfl
  have c1 := cellsA X_0.out.box 1 rfl
  have c2 := cellsA X_0.out.box 2 rfl
  have c3 := cellsA X_0.out.box 3 rfl
  have c4 := cellsA X_0.out.box 4 rfl
  have c5 := cellsA X_0.out.box 5 rfl
  have c6 := cellsA X_0.out.box 6 rfl
  have c7 := cellsA X_0.out.box 7 rfl
  have c8 := cellsA X_0.out.box 8 rfl
  have c9 := cellsA X_0.out.box 9 rfl
  have c10 := cellsA X_0.out.box 10 rfl
  have c11 := cellsA X_0.out.box 11 rfl
  have c12 := cellsA X_0.out.box 12 rfl
  go_wp2_with fail
  clear hW9 hb9 HW9 c0 c1 c2 c3 c4 c5 c6 c7 c8 c9 c10 c11 c12
  obtain ⟨LG, hLG⟩ : ∃ L, w6.heap.size = L := ⟨_, rfl⟩
  have hLS : bX + 1 ≤ LG := by rw [← hLG]; exact S7.out
  refine (implPutRec_rd a0 a1 _ p2 _ (owRec_ok.rd X_0.out.own) (by have := HP2.out; omega) ⟨T.out.below B6.out⟩).mono ?_
  rintro e w7 ⟨⟨yG, nG, cG, rfl, hA⟩, hB⟩
  rw [HR.out.1] at hA
  have hLv : LG ≤ w7.heap.size := by rw [← hLG]; exact hB.size
  rw [hLG] at hA
  obtain ⟨FG, hZ⟩ := so_new owB_ok hA
  clear hA
  obtain ⟨EG, hU⟩ : ∃ U, w7.heap.size = U := ⟨_, rfl⟩
  rw [hU] at hZ
  rw [hU] at hLv
  clear hLG
  have A_6 : Hd (VR 43 RdRec (U0) w.heap.size [.int .i64 p2.kind, .string p2.r.key, .int .i64 p2.r.t1, .slice A_x3 A_m3 A_d3, .int .i64 p2.r.t2, .slice A_x5 A_m5 A_d5, .int .i64 p2.r.has, .bool p2.r.aside, .string p2.key, .int .i64 p2.n, .int .i64 p2.who, .int .i64 p2.seq, .int .i64 p2.code] (p2) w7) := ⟨A_5.out.below (by have := S7.out; have := IV.out; omega) hB⟩
  have W_3 : Hd (Lo (EW) RdB w7 [.slice yW nW cW] (r)) := ⟨W_2.out.step (hB.mono (by have := S7.out; have := IV.out; omega))⟩
  have X_1 : Hd (VO 47 OwRec LX (bX + 1) bX [.int .i64 p2.kind, .string p2.r.key, .int .i64 p2.r.t1, .slice X_x3 X_m3 X_d3, .int .i64 p2.r.t2, .slice X_x5 X_m5 X_d5, .int .i64 p2.r.has, .bool p2.r.aside, .string p2.key, .int .i64 p2.n, .int .i64 p2.who, .int .i64 p2.seq, .int .i64 p2.code] FX (p2) w7) := ⟨X_0.out.below owRec_ok hB⟩
  have B8 : Hd (Below w.heap.size w w7) := ⟨Below.next B6.out hB⟩
  have S8 : Hd (bX + 1 ≤ w7.heap.size) := ⟨Nat.le_trans S7.out hB.size⟩
  clear A_5 W_2 X_0 B6 S7
  clear hB
  have IV2 : Hd (w.heap.size + 1 = U0 ∧ U0 ≤ LW ∧ LW ≤ EW ∧ EW ≤ LX ∧ LX ≤ bX ∧ bX + 1 ≤ LG ∧ LG ≤ EG) := ⟨by have := IV.out; omega⟩
  clear IV hLS hLv
  have IV := IV2
  clear IV2
  have S9 : Hd (EG ≤ w7.heap.size) := ⟨by omega⟩
  clear S8 hU
  have G_0 : Hd (SO OwB LG (EG) [.slice yG nG cG] FG (r) w7) := ⟨hZ⟩
  clear hZ
  go_wp2_with fail
  refine (eqByteS_rd yG nG cG yW nW cW (r) _ (owB_ok.rd G_0.out.own) (W_3.out.rd rdB_ok) (HR.out.2.1)).mono ?_
  rintro e w8 ⟨rfl, hB⟩
  have A_7 : Hd (VR 43 RdRec (U0) w.heap.size [.int .i64 p2.kind, .string p2.r.key, .int .i64 p2.r.t1, .slice A_x3 A_m3 A_d3, .int .i64 p2.r.t2, .slice A_x5 A_m5 A_d5, .int .i64 p2.r.has, .bool p2.r.aside, .string p2.key, .int .i64 p2.n, .int .i64 p2.who, .int .i64 p2.seq, .int .i64 p2.code] (p2) w8) := ⟨A_6.out.below (by have := S9.out; have := IV.out; omega) hB⟩
  have W_4 : Hd (Lo (EW) RdB w8 [.slice yW nW cW] (r)) := ⟨W_3.out.step (hB.mono (by have := S9.out; have := IV.out; omega))⟩
  have X_2 : Hd (VO 47 OwRec LX (bX + 1) bX [.int .i64 p2.kind, .string p2.r.key, .int .i64 p2.r.t1, .slice X_x3 X_m3 X_d3, .int .i64 p2.r.t2, .slice X_x5 X_m5 X_d5, .int .i64 p2.r.has, .bool p2.r.aside, .string p2.key, .int .i64 p2.n, .int .i64 p2.who, .int .i64 p2.seq, .int .i64 p2.code] FX (p2) w8) := ⟨X_1.out.below owRec_ok hB⟩
  have G_1 : Hd (SO OwB LG (EG) [.slice yG nG cG] FG (r) w8) := ⟨G_0.out.below owB_ok hB⟩
  have B10 : Hd (Below w.heap.size w w8) := ⟨Below.next B8.out hB⟩
  have S10 : Hd (EG ≤ w8.heap.size) := ⟨Nat.le_trans S9.out hB.size⟩
  clear A_6 W_3 X_1 G_0 B8 S9
  clear hB
  have c0 := cellsA X_2.out.box 0 rfl
  have c1 := cellsA X_2.out.box 1 rfl
  have c2 := cellsA X_2.out.box 2 rfl
  have c3 := cellsA X_2.out.box 3 rfl
  have c4 := cellsA X_2.out.box 4 rfl
  have c5 := cellsA X_2.out.box 5 rfl
  have c6 := cellsA X_2.out.box 6 rfl
  have c7 := cellsA X_2.out.box 7 rfl
  have c8 := cellsA X_2.out.box 8 rfl
  have c9 := cellsA X_2.out.box 9 rfl
  have c10 := cellsA X_2.out.box 10 rfl
  have c11 := cellsA X_2.out.box 11 rfl
  have c12 := cellsA X_2.out.box 12 rfl
  have g0 := cellsA A_7.out.box 0 rfl
  have g1 := cellsA A_7.out.box 1 rfl
  have g2 := cellsA A_7.out.box 2 rfl
  have g3 := cellsA A_7.out.box 3 rfl
  have g4 := cellsA A_7.out.box 4 rfl
  have g5 := cellsA A_7.out.box 5 rfl
  have g6 := cellsA A_7.out.box 6 rfl
  have g7 := cellsA A_7.out.box 7 rfl
  have g8 := cellsA A_7.out.box 8 rfl
  have g9 := cellsA A_7.out.box 9 rfl
  have g10 := cellsA A_7.out.box 10 rfl
  have g11 := cellsA A_7.out.box 11 rfl
  have g12 := cellsA A_7.out.box 12 rfl
  go_wp2_with fail
  clear c0 c1 c2 c3 c4 c5 c6 c7 c8 c9 c10 c11 c12 g0 g1 g2 g3 g4 g5 g6 g7 g8 g9 g10 g11 g12
  have KK : Hd (∀ w', Below w8.heap.size w8 w' → (w'.cell? ⟨bX, 0, none⟩ = some (.int .i64 p2.kind) ∧ w'.cell? ⟨bX, 1, none⟩ = some (.string p2.r.key) ∧ w'.cell? ⟨bX, 2, none⟩ = some (.int .i64 p2.r.t1) ∧ w'.cell? ⟨bX, 3, none⟩ = some (.slice X_x3 X_m3 X_d3) ∧ w'.cell? ⟨bX, 4, none⟩ = some (.int .i64 p2.r.t2) ∧ w'.cell? ⟨bX, 5, none⟩ = some (.slice X_x5 X_m5 X_d5) ∧ w'.cell? ⟨bX, 6, none⟩ = some (.int .i64 p2.r.has) ∧ w'.cell? ⟨bX, 7, none⟩ = some (.bool p2.r.aside) ∧ w'.cell? ⟨bX, 8, none⟩ = some (.string p2.key) ∧ w'.cell? ⟨bX, 9, none⟩ = some (.int .i64 p2.n) ∧ w'.cell? ⟨bX, 10, none⟩ = some (.int .i64 p2.who) ∧ w'.cell? ⟨bX, 11, none⟩ = some (.int .i64 p2.seq) ∧ w'.cell? ⟨bX, 12, none⟩ = some (.int .i64 p2.code) ∧ w'.cell? ⟨w.heap.size, 0, none⟩ = some (.int .i64 p2.kind) ∧ w'.cell? ⟨w.heap.size, 1, none⟩ = some (.string p2.r.key) ∧ w'.cell? ⟨w.heap.size, 2, none⟩ = some (.int .i64 p2.r.t1) ∧ w'.cell? ⟨w.heap.size, 3, none⟩ = some (.slice A_x3 A_m3 A_d3) ∧ w'.cell? ⟨w.heap.size, 4, none⟩ = some (.int .i64 p2.r.t2) ∧ w'.cell? ⟨w.heap.size, 5, none⟩ = some (.slice A_x5 A_m5 A_d5) ∧ w'.cell? ⟨w.heap.size, 6, none⟩ = some (.int .i64 p2.r.has) ∧ w'.cell? ⟨w.heap.size, 7, none⟩ = some (.bool p2.r.aside) ∧ w'.cell? ⟨w.heap.size, 8, none⟩ = some (.string p2.key) ∧ w'.cell? ⟨w.heap.size, 9, none⟩ = some (.int .i64 p2.n) ∧ w'.cell? ⟨w.heap.size, 10, none⟩ = some (.int .i64 p2.who) ∧ w'.cell? ⟨w.heap.size, 11, none⟩ = some (.int .i64 p2.seq) ∧ w'.cell? ⟨w.heap.size, 12, none⟩ = some (.int .i64 p2.code))) := ⟨fun w' hb => ⟨cell_below (cellsA X_2.out.box 0 rfl) hb, cell_below (cellsA X_2.out.box 1 rfl) hb, cell_below (cellsA X_2.out.box 2 rfl) hb, cell_below (cellsA X_2.out.box 3 rfl) hb, cell_below (cellsA X_2.out.box 4 rfl) hb, cell_below (cellsA X_2.out.box 5 rfl) hb, cell_below (cellsA X_2.out.box 6 rfl) hb, cell_below (cellsA X_2.out.box 7 rfl) hb, cell_below (cellsA X_2.out.box 8 rfl) hb, cell_below (cellsA X_2.out.box 9 rfl) hb, cell_below (cellsA X_2.out.box 10 rfl) hb, cell_below (cellsA X_2.out.box 11 rfl) hb, cell_below (cellsA X_2.out.box 12 rfl) hb, cell_below (cellsA A_7.out.box 0 rfl) hb, cell_below (cellsA A_7.out.box 1 rfl) hb, cell_below (cellsA A_7.out.box 2 rfl) hb, cell_below (cellsA A_7.out.box 3 rfl) hb, cell_below (cellsA A_7.out.box 4 rfl) hb, cell_below (cellsA A_7.out.box 5 rfl) hb, cell_below (cellsA A_7.out.box 6 rfl) hb, cell_below (cellsA A_7.out.box 7 rfl) hb, cell_below (cellsA A_7.out.box 8 rfl) hb, cell_below (cellsA A_7.out.box 9 rfl) hb, cell_below (cellsA A_7.out.box 10 rfl) hb, cell_below (cellsA A_7.out.box 11 rfl) hb, cell_below (cellsA A_7.out.box 12 rfl) hb⟩⟩
  have D0 : Hd (Below w8.heap.size w8 w8.drew) := ⟨(Below.refl _ w8).drew⟩
  have c0 := cellsA X_2.out.box 0 rfl
  have c1 := cellsA X_2.out.box 1 rfl
  have c2 := cellsA X_2.out.box 2 rfl
  have c3 := cellsA X_2.out.box 3 rfl
  have c4 := cellsA X_2.out.box 4 rfl
  have c5 := cellsA X_2.out.box 5 rfl
  have c6 := cellsA X_2.out.box 6 rfl
  have c7 := cellsA X_2.out.box 7 rfl
  have c8 := cellsA X_2.out.box 8 rfl
  have c9 := cellsA X_2.out.box 9 rfl
  have c10 := cellsA X_2.out.box 10 rfl
  have c11 := cellsA X_2.out.box 11 rfl
  have c12 := cellsA X_2.out.box 12 rfl
  have g0 := cellsA A_7.out.box 0 rfl
  have g1 := cellsA A_7.out.box 1 rfl
  have g2 := cellsA A_7.out.box 2 rfl
  have g3 := cellsA A_7.out.box 3 rfl
  have g4 := cellsA A_7.out.box 4 rfl
  have g5 := cellsA A_7.out.box 5 rfl
  have g6 := cellsA A_7.out.box 6 rfl
  have g7 := cellsA A_7.out.box 7 rfl
  have g8 := cellsA A_7.out.box 8 rfl
  have g9 := cellsA A_7.out.box 9 rfl
  have g10 := cellsA A_7.out.box 10 rfl
  have g11 := cellsA A_7.out.box 11 rfl
  have g12 := cellsA A_7.out.box 12 rfl
  go_region_held (fun w' => w'.cell? ⟨bX, 0, none⟩ = some (.int .i64 p2.kind) ∧ w'.cell? ⟨bX, 1, none⟩ = some (.string p2.r.key) ∧ w'.cell? ⟨bX, 2, none⟩ = some (.int .i64 p2.r.t1) ∧ w'.cell? ⟨bX, 3, none⟩ = some (.slice X_x3 X_m3 X_d3) ∧ w'.cell? ⟨bX, 4, none⟩ = some (.int .i64 p2.r.t2) ∧ w'.cell? ⟨bX, 5, none⟩ = some (.slice X_x5 X_m5 X_d5) ∧ w'.cell? ⟨bX, 6, none⟩ = some (.int .i64 p2.r.has) ∧ w'.cell? ⟨bX, 7, none⟩ = some (.bool p2.r.aside) ∧ w'.cell? ⟨bX, 8, none⟩ = some (.string p2.key) ∧ w'.cell? ⟨bX, 9, none⟩ = some (.int .i64 p2.n) ∧ w'.cell? ⟨bX, 10, none⟩ = some (.int .i64 p2.who) ∧ w'.cell? ⟨bX, 11, none⟩ = some (.int .i64 p2.seq) ∧ w'.cell? ⟨bX, 12, none⟩ = some (.int .i64 p2.code) ∧ w'.cell? ⟨w.heap.size, 0, none⟩ = some (.int .i64 p2.kind) ∧ w'.cell? ⟨w.heap.size, 1, none⟩ = some (.string p2.r.key) ∧ w'.cell? ⟨w.heap.size, 2, none⟩ = some (.int .i64 p2.r.t1) ∧ w'.cell? ⟨w.heap.size, 3, none⟩ = some (.slice A_x3 A_m3 A_d3) ∧ w'.cell? ⟨w.heap.size, 4, none⟩ = some (.int .i64 p2.r.t2) ∧ w'.cell? ⟨w.heap.size, 5, none⟩ = some (.slice A_x5 A_m5 A_d5) ∧ w'.cell? ⟨w.heap.size, 6, none⟩ = some (.int .i64 p2.r.has) ∧ w'.cell? ⟨w.heap.size, 7, none⟩ = some (.bool p2.r.aside) ∧ w'.cell? ⟨w.heap.size, 8, none⟩ = some (.string p2.key) ∧ w'.cell? ⟨w.heap.size, 9, none⟩ = some (.int .i64 p2.n) ∧ w'.cell? ⟨w.heap.size, 10, none⟩ = some (.int .i64 p2.who) ∧ w'.cell? ⟨w.heap.size, 11, none⟩ = some (.int .i64 p2.seq) ∧ w'.cell? ⟨w.heap.size, 12, none⟩ = some (.int .i64 p2.code)) (first | (with_reducible exact KK.out _ D2.out) | (with_reducible exact KK.out _ D1.out) | (with_reducible exact KK.out _ D0.out))
    (first | (go_at_call 23; refine (eqRec_rd _ cs9 p2 _ (rdRec_ok.below (rcRec_w (owRec_ok.rd X_2.out.own)) D1.out) R9.out (by have := HP2.out; omega)).mono ?_; rintro e w9 ⟨rfl, hB9⟩; have D2 : Hd (Below w8.heap.size w8 w9) := ⟨Below.next D1.out hB9⟩; clear hB9) | (go_at_call 21; refine (toRec_rd _ p2 _ (rdRec_ok.below (A_7.out.lo.rd rdRec_ok) D0.out) (by have := HP2.out; omega)).mono ?_; rintro e wv ⟨⟨cs9, rfl, hN9⟩, hB9⟩; have D1 : Hd (Below w8.heap.size w8 wv) := ⟨Below.next D0.out hB9⟩; have R9 : Hd (RdRec wv cs9 p2) := (⟨by obtain ⟨F9, hE9, _⟩ := hN9; exact rcRec_w (owRec_ok.rd hE9)⟩); clear hB9 hN9))
  have hB : Below w8.heap.size w8 w9 := D2.out
  clear D2 D1 D0 KK R9 c0 c1 c2 c3 c4 c5 c6 c7 c8 c9 c10 c11 c12 g0 g1 g2 g3 g4 g5 g6 g7 g8 g9 g10 g11 g12
  have A_8 : Hd (VR 43 RdRec (U0) w.heap.size [.int .i64 p2.kind, .string p2.r.key, .int .i64 p2.r.t1, .slice A_x3 A_m3 A_d3, .int .i64 p2.r.t2, .slice A_x5 A_m5 A_d5, .int .i64 p2.r.has, .bool p2.r.aside, .string p2.key, .int .i64 p2.n, .int .i64 p2.who, .int .i64 p2.seq, .int .i64 p2.code] (p2) w9) := ⟨A_7.out.below (by have := S10.out; have := IV.out; omega) hB⟩
  have W_5 : Hd (Lo (EW) RdB w9 [.slice yW nW cW] (r)) := ⟨W_4.out.step (hB.mono (by have := S10.out; have := IV.out; omega))⟩
  have X_3 : Hd (VO 47 OwRec LX (bX + 1) bX [.int .i64 p2.kind, .string p2.r.key, .int .i64 p2.r.t1, .slice X_x3 X_m3 X_d3, .int .i64 p2.r.t2, .slice X_x5 X_m5 X_d5, .int .i64 p2.r.has, .bool p2.r.aside, .string p2.key, .int .i64 p2.n, .int .i64 p2.who, .int .i64 p2.seq, .int .i64 p2.code] FX (p2) w9) := ⟨X_2.out.below owRec_ok hB⟩
  have G_2 : Hd (SO OwB LG (EG) [.slice yG nG cG] FG (r) w9) := ⟨G_1.out.below owB_ok hB⟩
  have B11 : Hd (Below w.heap.size w w9) := ⟨Below.next B10.out hB⟩
  have S11 : Hd (EG ≤ w9.heap.size) := ⟨Nat.le_trans S10.out hB.size⟩
  clear A_7 W_4 X_2 G_1 B10 S10
  clear hB
  have c0 := cellsA X_3.out.box 0 rfl
  have c1 := cellsA X_3.out.box 1 rfl
  have c2 := cellsA X_3.out.box 2 rfl
  have c3 := cellsA X_3.out.box 3 rfl
  have c4 := cellsA X_3.out.box 4 rfl
  have c5 := cellsA X_3.out.box 5 rfl
  have c6 := cellsA X_3.out.box 6 rfl
  have c7 := cellsA X_3.out.box 7 rfl
  have c8 := cellsA X_3.out.box 8 rfl
  have c9 := cellsA X_3.out.box 9 rfl
  have c10 := cellsA X_3.out.box 10 rfl
  have c11 := cellsA X_3.out.box 11 rfl
  have c12 := cellsA X_3.out.box 12 rfl
  go_wp2_with fail
  clear c0 c1 c2 c3 c4 c5 c6 c7 c8 c9 c10 c11 c12
  have hcu : cuRec p2 ≤ 1048576 := Nat.le_trans (cuRec_wt p2) HP2.out
  refine (markRec_ow _ FX (p2) (1) _ X_3.out.own (by have := HP2.out; first | omega | (unfold ctB; omega))).mono ?_
  rintro e w10 ⟨rfl, hO, hC⟩
  have hin : ∀ x, FX x → LX ≤ x ∧ x < bX + 1 := X_3.out.in_
  have A_9 : Hd (VR 43 RdRec (U0) w.heap.size [.int .i64 p2.kind, .string p2.r.key, .int .i64 p2.r.t1, .slice A_x3 A_m3 A_d3, .int .i64 p2.r.t2, .slice A_x5 A_m5 A_d5, .int .i64 p2.r.has, .bool p2.r.aside, .string p2.key, .int .i64 p2.n, .int .i64 p2.who, .int .i64 p2.seq, .int .i64 p2.code] (p2) w10) := ⟨A_8.out.chg (by have := S11.out; have := IV.out; omega) hC (fun x hx => by have := hin x hx; have := IV.out; omega)⟩
  have W_6 : Hd (Lo (EW) RdB w10 [.slice yW nW cW] (r)) := ⟨W_5.out.step (hC.below (fun x hx => by have := hin x hx; have := IV.out; omega) (by have := S11.out; have := IV.out; omega))⟩
  have X_4 : Hd (VO 47 OwRec LX (bX + 1) bX [.int .i64 p2.kind, .string p2.r.key, .int .i64 p2.r.t1, .slice X_x3 X_m3 X_d3, .int .i64 p2.r.t2, .slice X_x5 X_m5 X_d5, .int .i64 p2.r.has, .bool p2.r.aside, .string p2.key, .int .i64 p2.n, .int .i64 p2.who, .int .i64 p2.seq, .int .i64 p2.code] FX (mtRec (1) (p2)) w10) := ⟨X_3.out.marked hO hC⟩
  have G_3 : Hd (SO OwB LG (EG) [.slice yG nG cG] FG (r) w10) := ⟨G_2.out.chg owB_ok hC (fun x hx => by have := hin x hx; have := IV.out; omega)⟩
  have B12 : Hd (Below w.heap.size w w10) := ⟨B11.out.trans (hC.below (fun x hx => by have := hin x hx; have := IV.out; omega) B11.out.size)⟩
  have S12 : Hd (EG ≤ w10.heap.size) := ⟨Nat.le_trans S11.out hC.size⟩
  clear A_8 W_5 X_3 G_2 B11 S11
  clear hin hO hC
  have hk0 : ¬ (((1 + cuRec (p2) : Nat) : Int) < 0) := by omega
  clear X_4
  go_wp2_with fail
  clear hk0 hcu
  refine (eqByteS_rd yG nG cG yW nW cW (r) _ (owB_ok.rd G_3.out.own) (W_6.out.rd rdB_ok) (HR.out.2.1)).mono ?_
  rintro e w11 ⟨rfl, hB⟩
  have A_10 : Hd (VR 43 RdRec (U0) w.heap.size [.int .i64 p2.kind, .string p2.r.key, .int .i64 p2.r.t1, .slice A_x3 A_m3 A_d3, .int .i64 p2.r.t2, .slice A_x5 A_m5 A_d5, .int .i64 p2.r.has, .bool p2.r.aside, .string p2.key, .int .i64 p2.n, .int .i64 p2.who, .int .i64 p2.seq, .int .i64 p2.code] (p2) w11) := ⟨A_9.out.below (by have := S12.out; have := IV.out; omega) hB⟩
  have W_7 : Hd (Lo (EW) RdB w11 [.slice yW nW cW] (r)) := ⟨W_6.out.step (hB.mono (by have := S12.out; have := IV.out; omega))⟩
  have G_4 : Hd (SO OwB LG (EG) [.slice yG nG cG] FG (r) w11) := ⟨G_3.out.below owB_ok hB⟩
  have B13 : Hd (Below w.heap.size w w11) := ⟨Below.next B12.out hB⟩
  have S13 : Hd (EG ≤ w11.heap.size) := ⟨Nat.le_trans S12.out hB.size⟩
  clear A_9 W_6 G_3 B12 S12
  clear hB
  go_wp2_with fail
  refine (markByteS_ow yG nG cG (1) (r) FG _ G_4.out.own (by exact HR.out.2.2)).mono ?_
  rintro e w12 ⟨rfl, hO, hC⟩
  have hin : ∀ x, FG x → LG ≤ x ∧ x < EG := G_4.out.in_
  have A_11 : Hd (VR 43 RdRec (U0) w.heap.size [.int .i64 p2.kind, .string p2.r.key, .int .i64 p2.r.t1, .slice A_x3 A_m3 A_d3, .int .i64 p2.r.t2, .slice A_x5 A_m5 A_d5, .int .i64 p2.r.has, .bool p2.r.aside, .string p2.key, .int .i64 p2.n, .int .i64 p2.who, .int .i64 p2.seq, .int .i64 p2.code] (p2) w12) := ⟨A_10.out.chg (by have := S13.out; have := IV.out; omega) hC (fun x hx => by have := hin x hx; have := IV.out; omega)⟩
  have W_8 : Hd (Lo (EW) RdB w12 [.slice yW nW cW] (r)) := ⟨W_7.out.step (hC.below (fun x hx => by have := hin x hx; have := IV.out; omega) (by have := S13.out; have := IV.out; omega))⟩
  have G_5 : Hd (SO OwB LG (EG) [.slice yG nG cG] FG (mkB (1) (r)) w12) := ⟨G_4.out.marked hO⟩
  have B14 : Hd (Below w.heap.size w w12) := ⟨B13.out.trans (hC.below (fun x hx => by have := hin x hx; have := IV.out; omega) B13.out.size)⟩
  have S14 : Hd (EG ≤ w12.heap.size) := ⟨Nat.le_trans S13.out hC.size⟩
  clear A_10 W_7 G_4 B13 S13
  clear hin hO hC
  go_wp2_with fail
  refine (heldByteS_rd yG nG cG (1) (r) _ (owB_ok.rd G_5.out.own) (by exact HR.out.2.2)).mono ?_
  rintro e w13 ⟨rfl, hB⟩
  have A_12 : Hd (VR 43 RdRec (U0) w.heap.size [.int .i64 p2.kind, .string p2.r.key, .int .i64 p2.r.t1, .slice A_x3 A_m3 A_d3, .int .i64 p2.r.t2, .slice A_x5 A_m5 A_d5, .int .i64 p2.r.has, .bool p2.r.aside, .string p2.key, .int .i64 p2.n, .int .i64 p2.who, .int .i64 p2.seq, .int .i64 p2.code] (p2) w13) := ⟨A_11.out.below (by have := S14.out; have := IV.out; omega) hB⟩
  have W_9 : Hd (Lo (EW) RdB w13 [.slice yW nW cW] (r)) := ⟨W_8.out.step (hB.mono (by have := S14.out; have := IV.out; omega))⟩
  have G_6 : Hd (SO OwB LG (EG) [.slice yG nG cG] FG (mkB (1) (r)) w13) := ⟨G_5.out.below owB_ok hB⟩
  have B15 : Hd (Below w.heap.size w w13) := ⟨Below.next B14.out hB⟩
  have S15 : Hd (EG ≤ w13.heap.size) := ⟨Nat.le_trans S14.out hB.size⟩
  clear A_11 W_8 G_5 B14 S14
  clear hB
  have hq : ¬ (((1 + ctB (r) : Nat) : Int) < 0) := by omega
  have hqm : (((1 + ctB (r) : Nat) : Int) != ((1 + ctB (r) : Nat) : Int)) = false := by simp
  have c0 := cellsA A_12.out.box 0 rfl
  have c1 := cellsA A_12.out.box 1 rfl
  have c2 := cellsA A_12.out.box 2 rfl
  have c3 := cellsA A_12.out.box 3 rfl
  have c4 := cellsA A_12.out.box 4 rfl
  have c5 := cellsA A_12.out.box 5 rfl
  have c6 := cellsA A_12.out.box 6 rfl
  have c7 := cellsA A_12.out.box 7 rfl
  have c8 := cellsA A_12.out.box 8 rfl
  have c9 := cellsA A_12.out.box 9 rfl
  have c10 := cellsA A_12.out.box 10 rfl
  have c11 := cellsA A_12.out.box 11 rfl
  have c12 := cellsA A_12.out.box 12 rfl
  go_wp2_with fail
  clear c0 c1 c2 c3 c4 c5 c6 c7 c8 c9 c10 c11 c12
  refine (toRec_rd _ p2 _ (A_12.out.lo.rd rdRec_ok) (by have := HP2.out; omega)).mono ?_
  rintro e w14 ⟨⟨csh2, rfl, hN⟩, hB⟩
  have hT : RcRec w14 csh2 p2 := by obtain ⟨F9, hE9, _⟩ := hN; exact owRec_ok.rd hE9
  clear hN
  have A_13 : Hd (VR 43 RdRec (U0) w.heap.size [.int .i64 p2.kind, .string p2.r.key, .int .i64 p2.r.t1, .slice A_x3 A_m3 A_d3, .int .i64 p2.r.t2, .slice A_x5 A_m5 A_d5, .int .i64 p2.r.has, .bool p2.r.aside, .string p2.key, .int .i64 p2.n, .int .i64 p2.who, .int .i64 p2.seq, .int .i64 p2.code] (p2) w14) := ⟨A_12.out.below (by have := S15.out; have := IV.out; omega) hB⟩
  have W_10 : Hd (Lo (EW) RdB w14 [.slice yW nW cW] (r)) := ⟨W_9.out.step (hB.mono (by have := S15.out; have := IV.out; omega))⟩
  have G_7 : Hd (SO OwB LG (EG) [.slice yG nG cG] FG (mkB (1) (r)) w14) := ⟨G_6.out.below owB_ok hB⟩
  have B16 : Hd (Below w.heap.size w w14) := ⟨Below.next B15.out hB⟩
  have S16 : Hd (EG ≤ w14.heap.size) := ⟨Nat.le_trans S15.out hB.size⟩
  clear A_12 W_9 G_6 B15 S15
  clear hB
  have Th2 : Hd (RcRec w14 csh2 (p2)) := ⟨hT⟩
  clear hT
  go_wp2_with fail
  obtain ⟨LH, hLH⟩ : ∃ L, w14.heap.size = L := ⟨_, rfl⟩
  have hLS : EG ≤ LH := by rw [← hLH]; exact S16.out
  refine (implPutRec_rd a0 a1 _ p2 _ Th2.out (by have := HP2.out; omega) ⟨T.out.below B16.out⟩).mono ?_
  rintro e w15 ⟨⟨yH, nH, cH, rfl, hA⟩, hB⟩
  rw [HR.out.1] at hA
  clear Th2
  have hLv : LH ≤ w15.heap.size := by rw [← hLH]; exact hB.size
  rw [hLH] at hA
  obtain ⟨FH, hZ⟩ := so_new owB_ok hA
  clear hA
  obtain ⟨EH, hU⟩ : ∃ U, w15.heap.size = U := ⟨_, rfl⟩
  rw [hU] at hZ
  rw [hU] at hLv
  clear hLH
  have A_14 : Hd (VR 43 RdRec (U0) w.heap.size [.int .i64 p2.kind, .string p2.r.key, .int .i64 p2.r.t1, .slice A_x3 A_m3 A_d3, .int .i64 p2.r.t2, .slice A_x5 A_m5 A_d5, .int .i64 p2.r.has, .bool p2.r.aside, .string p2.key, .int .i64 p2.n, .int .i64 p2.who, .int .i64 p2.seq, .int .i64 p2.code] (p2) w15) := ⟨A_13.out.below (by have := S16.out; have := IV.out; omega) hB⟩
  have W_11 : Hd (Lo (EW) RdB w15 [.slice yW nW cW] (r)) := ⟨W_10.out.step (hB.mono (by have := S16.out; have := IV.out; omega))⟩
  have G_8 : Hd (SO OwB LG (EG) [.slice yG nG cG] FG (mkB (1) (r)) w15) := ⟨G_7.out.below owB_ok hB⟩
  have B17 : Hd (Below w.heap.size w w15) := ⟨Below.next B16.out hB⟩
  have S17 : Hd (EG ≤ w15.heap.size) := ⟨Nat.le_trans S16.out hB.size⟩
  clear A_13 W_10 G_7 B16 S16
  clear hB
  have IV2 : Hd (w.heap.size + 1 = U0 ∧ U0 ≤ LW ∧ LW ≤ EW ∧ EW ≤ LX ∧ LX ≤ bX ∧ bX + 1 ≤ LG ∧ LG ≤ EG ∧ EG ≤ LH ∧ LH ≤ EH) := ⟨by have := IV.out; omega⟩
  clear IV hLS hLv
  have IV := IV2
  clear IV2
  have S18 : Hd (EH ≤ w15.heap.size) := ⟨by omega⟩
  clear S17 hU
  have H_0 : Hd (SO OwB LH (EH) [.slice yH nH cH] FH (r) w15) := ⟨hZ⟩
  clear hZ
  go_wp2_with fail
  refine (eqByteS_rd yH nH cH yW nW cW (r) _ (owB_ok.rd H_0.out.own) (W_11.out.rd rdB_ok) (HR.out.2.1)).mono ?_
  rintro e w16 ⟨rfl, hB⟩
  have A_15 : Hd (VR 43 RdRec (U0) w.heap.size [.int .i64 p2.kind, .string p2.r.key, .int .i64 p2.r.t1, .slice A_x3 A_m3 A_d3, .int .i64 p2.r.t2, .slice A_x5 A_m5 A_d5, .int .i64 p2.r.has, .bool p2.r.aside, .string p2.key, .int .i64 p2.n, .int .i64 p2.who, .int .i64 p2.seq, .int .i64 p2.code] (p2) w16) := ⟨A_14.out.below (by have := S18.out; have := IV.out; omega) hB⟩
  have W_12 : Hd (Lo (EW) RdB w16 [.slice yW nW cW] (r)) := ⟨W_11.out.step (hB.mono (by have := S18.out; have := IV.out; omega))⟩
  have G_9 : Hd (SO OwB LG (EG) [.slice yG nG cG] FG (mkB (1) (r)) w16) := ⟨G_8.out.below owB_ok hB⟩
  have H_1 : Hd (SO OwB LH (EH) [.slice yH nH cH] FH (r) w16) := ⟨H_0.out.below owB_ok hB⟩
  have B19 : Hd (Below w.heap.size w w16) := ⟨Below.next B17.out hB⟩
  have S19 : Hd (EH ≤ w16.heap.size) := ⟨Nat.le_trans S18.out hB.size⟩
  clear A_14 W_11 G_8 H_0 B17 S18
  clear hB
  go_wp2_with fail
  clear H_1
  clear W_12
  refine (heldByteS_rd yG nG cG (1) (r) _ (owB_ok.rd G_9.out.own) (by exact HR.out.2.2)).mono ?_
  rintro e w17 ⟨rfl, hB⟩
  have A_16 : Hd (VR 43 RdRec (U0) w.heap.size [.int .i64 p2.kind, .string p2.r.key, .int .i64 p2.r.t1, .slice A_x3 A_m3 A_d3, .int .i64 p2.r.t2, .slice A_x5 A_m5 A_d5, .int .i64 p2.r.has, .bool p2.r.aside, .string p2.key, .int .i64 p2.n, .int .i64 p2.who, .int .i64 p2.seq, .int .i64 p2.code] (p2) w17) := ⟨A_15.out.below (by have := S19.out; have := IV.out; omega) hB⟩
  have G_10 : Hd (SO OwB LG (EG) [.slice yG nG cG] FG (mkB (1) (r)) w17) := ⟨G_9.out.below owB_ok hB⟩
  have B20 : Hd (Below w.heap.size w w17) := ⟨Below.next B19.out hB⟩
  have S20 : Hd (EH ≤ w17.heap.size) := ⟨Nat.le_trans S19.out hB.size⟩
  clear A_15 G_9 B19 S19
  clear hB
  go_wp2_with fail
  go_ret
  exact ⟨rfl, B20.out⟩

set_option maxRecDepth 100000 in
theorem lifted (os : Os) (started : os.Started) (H : Type) (enc : TypeId × Value → H) :
    ReturnsInHanded {} Tryd.checked os 5 .any (fun w args => (Rows.fnExactPutRecSpec.pre enc Tryd.prog Tryd.f5 Rows.fnExactPutRecRow.domain false w args ∧ laidMetH Tryd.prog Rows.fnExactPutRecRow.laid w) ∧ sizedMet enc Tryd.prog Tryd.f5 (OpenSpec.ofChange Rows.fnExactPutRecSpec) false w args)
      (Rows.fnExactPutRecSpec.post enc Tryd.prog Tryd.f5 false true false false) := by
  refine returnsInHanded_of_change_and (C := Tryd.checked) (X := fun w _ => laidMetH Tryd.prog Rows.fnExactPutRecRow.laid w) (fun _ _ _ hh h => h.of_heap hh) own started (by kernel_rfl) Tryd.func5
    (ChangeSpec.witness_shaped (enc := enc) (C := Tryd.checked) (os := os) (X := fun w _ => laidMetH Tryd.prog Rows.fnExactPutRecRow.laid w) false (World.laidAll Tryd.prog os Rows.fnExactPutRecRow.laid) #[.int .i64 0, .int .i64 0, .agg #[.int .i64 0, .string ByteArray.empty, .int .i64 0, .slice none 0 0, .int .i64 0, .slice none 0 0, .int .i64 0, .bool false, .string ByteArray.empty, .int .i64 0, .int .i64 0, .int .i64 0, .int .i64 0]] 8 (World.laidAll_os _ _ _)
      (World.shaped_of_ZipB (by kernel_rfl) (by kernel_rfl)) (by kernel_rfl) (by kernel_rfl) (by kernel_rfl)
      (by rw [MakeChecks.laidMetH_plain _ _ _ (by kernel_rfl)]; exact laidMet_laidAll _ (by kernel_rfl) (by kernel_rfl))) ?_
  intro W base args ds gs before hval0 hW _ _ hL _
  have hval : ∀ (j : Nat) t v, Tryd.f5.params[j]? = some t → args[j]? = some v → Value.okWide Tryd.prog W .any base t v := hval0
  have hW' := hW
  obtain ⟨p, q, hA0, hV, rfl, hfz, hnd⟩ := hW
  have hA : DataW.TrodAll enc Tryd.prog W 0 (fun _ => true) true Tryd.f5.params.toList args.toList ds p := hA0
  rw [Tryd.params5] at hA hval
  obtain ⟨v0, vs0, d0, ds0, p0, q0, hargs, rfl, rfl, h0, r0⟩ := trodAll_cons hA
  obtain ⟨v1, vs1, d1, ds1, p1, q1, rfl, rfl, rfl, h1, r1⟩ := trodAll_cons r0
  obtain ⟨v2, vs2, d2, ds2, p2, q2, rfl, rfl, rfl, h2, r2⟩ := trodAll_cons r1
  obtain ⟨rfl, rfl, rfl⟩ := trodAll_nil r2
  obtain rfl : args = #[v0, v1, v2] := by cases args; simp_all
  have hV1 : DataW.TrodVars enc Tryd.prog W (fun _ => true) Rows.fnExactPutRecSpec.vars gs q := hV
  obtain ⟨gv1, gv2, gv3, gv4, rfl⟩ : ∃ gv1 gv2 gv3 gv4, gs = [gv1, gv2, gv3, gv4] := by
    match gs, (vars_length hV1 : gs.length = 4) with
    | [gv1, gv2, gv3, gv4], _ => exact ⟨gv1, gv2, gv3, gv4, rfl⟩
  obtain ⟨a0, rfl, rfl, rfl, w0⟩ := open_int Tryd.underlying3 (hval 0 3 v0 rfl rfl) h0
  obtain ⟨a1, rfl, rfl, rfl, w1⟩ := open_int Tryd.underlying3 (hval 1 3 v1 rfl rfl) h1
  have k2 := h2
  have lt2 : ∀ x ∈ p2, x.block < W.heap.size := by obtain ⟨m, hm⟩ := k2; exact DataW.trod_lt m _ _ _ hm
  obtain ⟨cs2, rfl, _⟩ := okWide_struct Tryd.underlying43 (hval 2 43 v2 rfl rfl)
  obtain ⟨e2, g2⟩ : ∃ a, RdRec W cs2.toList a := by obtain ⟨fuel, hf⟩ := h2; exact rdRec_trod enc W 0 _ true fuel _ _ hf
  obtain ⟨A_x3, A_m3, A_d3, A_x5, A_m5, A_d5, hcs2, _⟩ := id g2
  obtain rfl : cs2 = #[.int .i64 e2.kind, .string e2.r.key, .int .i64 e2.r.t1, .slice A_x3 A_m3 A_d3, .int .i64 e2.r.t2, .slice A_x5 A_m5 A_d5, .int .i64 e2.r.has, .bool e2.r.aside, .string e2.key, .int .i64 e2.n, .int .i64 e2.who, .int .i64 e2.seq, .int .i64 e2.code] := by apply Array.toList_inj.1; rw [hcs2]
  clear hA0 hval0
  refine (walk a0 w0 a1 w1 A_x3 A_m3 A_d3 A_x5 A_m5 A_d5 e2 W g2 ⟨all_of hL⟩).mono fun e W' ⟨he, hg⟩ => ?_
  subst he
  exact ⟨_, rfl, _, _, _, [], _, q, hW', trodAll_mk1 (shut_bool Tryd.underlying4 _), (trodAll_cons_mk (shut_int Tryd.underlying3 w0) (trodAll_cons_mk (shut_int Tryd.underlying3 w1) (trodAll_cons_mk (Below.trod laidOut (by kernel_rfl) (of_decide_eq_true (by kernel_rfl)) k2 hg lt2) trodAll_mk0))), Below.trodVars laidOut hg (by kernel_rfl) hV1, hg.frame _, fun h => by cases h⟩

theorem over : Rows.fnExactPutRecRow.holds Tryd.pinned (OpenSpec.ofChange Rows.fnExactPutRecSpec) :=
  OpenClaim.holds_of_wide 5 Tryd.f5 rfl rfl rfl rfl rfl rfl rfl ⟨rfl, rfl, rfl, rfl, rfl⟩ rfl rfl rfl rfl rfl (by kernel_rfl) Tryd.func5 (by kernel_rfl)
    (of_decide_eq_true (by kernel_rfl)) (by unfold Func.isWrapper; first | (rw [if_pos (by decide +kernel)]; kernel_rfl) | (rw [if_neg (by decide +kernel)]; exact ⟨rfl, rfl⟩))
    (fun os started H enc _ => lifted os started H enc)

theorem plain (f : FuncId) (fn : Func) (hf : Tryd.pinned.checked.prog.funcNamed Rows.fnExactPutRecRow.func = some f) (hfn : Tryd.pinned.checked.prog.funcs[f]? = some fn) :
    true = Tryd.pinned.checked.prog.looks [] ∧ ∀ (j : Nat) t, fn.params[j]? = some t → Tryd.pinned.checked.prog.wantsStandIn t = false := by
  obtain rfl : f = 5 := Option.some.inj ((show Tryd.prog.funcNamed Rows.fnExactPutRecRow.func = some 5 by kernel_rfl).symm.trans hf) |>.symm
  obtain rfl : fn = Tryd.f5 := (Option.some.inj (Tryd.func5.symm.trans hfn)).symm
  refine ⟨by kernel_rfl, fun j t ht => ?_⟩
  rw [Tryd.params5] at ht
  have hm : t ∈ [3, 43] := by first | simpa using Array.mem_of_getElem? ht | (have h := Array.mem_of_getElem? ht; simp at h ⊢; rcases h with h | h | h | h <;> simp [h])
  have hall : ([3, 43].all fun u => !Tryd.prog.wantsStandIn u) = true := by kernel_rfl
  exact (show Tryd.prog.wantsStandIn t = false by simpa using List.all_eq_true.1 hall t hm)

end Go.Proofs.YtbeiocngiippgabDoor.fnExactPutRec

namespace Go.Proofs.YtbeiocngiippgabDoor
theorem fnExactPutRecCard_holds : Rows.FnExactPutRecCardSaid :=
  Claim7.holds_tied_plain_at .later [] _ _ _ _ fnExactPutRec.over (fun _ h => by cases h) (by kernel_rfl) (fun _ h => by cases h) fnExactPutRec_row_tie rfl ⟨rfl, rfl⟩ (by kernel_rfl) rfl fnExactPutRec.plain (by kernel_rfl)
#print axioms fnExactPutRecCard_holds
end Go.Proofs.YtbeiocngiippgabDoor
