/- For every record, RecOk answers as the specification; it writes into no argument. (A tied card: the package-level tables that its row lists start as the program's text lays them.) -/
import Derived.Test.YtbeiocngiippgaaDoorCards
import Derived.Test.YtbeiocngiippgaaDoorTie
import Derived.WalkKit
import Derived.ProofKit
import Derived.OpenShut
import Derived.ShutString
import Derived.ChangeOld
import Derived.Below
import Derived.OpenVars
import Derived.Lay
import Derived.MakeChecks
import Derived.SevenTiedAt
import Derived.Stop.Joined
import Derived.Lib.SmallJoins
import Derived.Deep.RegionHeld3
import Derived.Deep.RegionHeldLaw
import Derived.Test.YtbeiocngiippgaaDoorRecI
import Derived.Test.YtbeiocngiippgaaDoorTrodRec
import Derived.Test.YtbeiocngiippgaaDoorExact
import Derived.Test.YtbeiocngiippgaaDoorDpRecT
namespace Go.Proofs.YtbeiocngiippgaaDoor.fnExactRecOk
open Go.ChangeShapes Go.WideShapes Go.ChangeAt Go.RowKit
set_option linter.unusedVariables false
set_option maxRecDepth 4000

theorem own : ownKnob Tryd.prog.godebug = none := by kernel_rfl
theorem laidOut : laidOutB Tryd.prog = true := by kernel_rfl

set_option maxHeartbeats 8000000 in
theorem walk (A_x3 : Option Addr) (A_m3 A_d3 : Nat) (A_x5 : Option Addr) (A_m5 A_d5 : Nat) (p0 : RecD) (w : World) (h0 : RdRec w [.int .i64 p0.kind, .string p0.r.key, .int .i64 p0.r.t1, .slice A_x3 A_m3 A_d3, .int .i64 p0.r.t2, .slice A_x5 A_m5 A_d5, .int .i64 p0.r.has, .bool p0.r.aside, .string p0.key, .int .i64 p0.n, .int .i64 p0.who, .int .i64 p0.seq, .int .i64 p0.code] p0) (T : Hd (AllAt w)) :
    Calls Tryd.prog 3 #[.agg #[.int .i64 p0.kind, .string p0.r.key, .int .i64 p0.r.t1, .slice A_x3 A_m3 A_d3, .int .i64 p0.r.t2, .slice A_x5 A_m5 A_d5, .int .i64 p0.r.has, .bool p0.r.aside, .string p0.key, .int .i64 p0.n, .int .i64 p0.who, .int .i64 p0.seq, .int .i64 p0.code]] w fun e w' => e = .returned (.bool true) ∧ Below w.heap.size w w' := by
  have HA0 : Hd (RdRec w [.int .i64 p0.kind, .string p0.r.key, .int .i64 p0.r.t1, .slice A_x3 A_m3 A_d3, .int .i64 p0.r.t2, .slice A_x5 A_m5 A_d5, .int .i64 p0.r.has, .bool p0.r.aside, .string p0.key, .int .i64 p0.n, .int .i64 p0.who, .int .i64 p0.seq, .int .i64 p0.code] p0) := ⟨h0⟩
  clear h0
  go_enter Tryd.func3, Tryd.ntmps3
  go_wp2_with fail
  obtain ⟨w1, hW1⟩ : ∃ W, w.alloc (.cells #[.int .i64 p0.kind, .string p0.r.key, .int .i64 p0.r.t1, .slice A_x3 A_m3 A_d3, .int .i64 p0.r.t2, .slice A_x5 A_m5 A_d5, .int .i64 p0.r.has, .bool p0.r.aside, .string p0.key, .int .i64 p0.n, .int .i64 p0.who, .int .i64 p0.seq, .int .i64 p0.code] 28) = W := ⟨_, rfl⟩
  obtain ⟨U0, hU0⟩ : ∃ U, w.heap.size + 1 = U := ⟨_, rfl⟩
  have B0 : Hd (Below w.heap.size w w1) := ⟨by rw [← hW1]; exact below_lit w _⟩
  have S0 : Hd (U0 ≤ w1.heap.size) := ⟨by rw [← hW1, ← hU0]; simp⟩
  have IV : Hd (w.heap.size + 1 = U0) := ⟨hU0⟩
  have A_0 : Hd (VR 28 RdRec (U0) w.heap.size [.int .i64 p0.kind, .string p0.r.key, .int .i64 p0.r.t1, .slice A_x3 A_m3 A_d3, .int .i64 p0.r.t2, .slice A_x5 A_m5 A_d5, .int .i64 p0.r.has, .bool p0.r.aside, .string p0.key, .int .i64 p0.n, .int .i64 p0.who, .int .i64 p0.seq, .int .i64 p0.code] (p0) w1) := ⟨by rw [← hW1, ← hU0]; exact vr_new rdRec_ok HA0.out⟩
  rewrite [hW1]
  clear hW1 hU0 HA0
  refine (szRec_rd _ p0 1048576 _ (A_0.out.lo.rd rdRec_ok) ⟨by omega, by omega⟩).mono ?_
  rintro e w2 ⟨⟨l, rfl, hl1, hl2, hl3⟩, hB⟩
  have A_1 : Hd (VR 28 RdRec (U0) w.heap.size [.int .i64 p0.kind, .string p0.r.key, .int .i64 p0.r.t1, .slice A_x3 A_m3 A_d3, .int .i64 p0.r.t2, .slice A_x5 A_m5 A_d5, .int .i64 p0.r.has, .bool p0.r.aside, .string p0.key, .int .i64 p0.n, .int .i64 p0.who, .int .i64 p0.seq, .int .i64 p0.code] (p0) w2) := ⟨A_0.out.below (by have := S0.out; have := IV.out; omega) hB⟩
  have B1 : Hd (Below w.heap.size w w2) := ⟨Below.next B0.out hB⟩
  have S1 : Hd (U0 ≤ w2.heap.size) := ⟨Nat.le_trans S0.out hB.size⟩
  clear A_0 B0 S0
  clear hB
  by_cases hl0 : l < 0
  · go_wp2_with fail
    go_ret
    exact ⟨rfl, B1.out⟩
  have HP0 : Hd (wtRec p0 ≤ 1048576) := ⟨by have := hl3 (by omega); omega⟩
  clear hl1 hl2 hl3
  obtain ⟨r, hr⟩ : ∃ r, recOk p0 = r := ⟨_, rfl⟩
  have HR : Hd (recOk p0 = r) := ⟨hr⟩
  clear hr
  have hrr : (r != r) = false := by simp
  have c0 := cellsA A_1.out.box 0 rfl
  have c1 := cellsA A_1.out.box 1 rfl
  have c2 := cellsA A_1.out.box 2 rfl
  have c3 := cellsA A_1.out.box 3 rfl
  have c4 := cellsA A_1.out.box 4 rfl
  have c5 := cellsA A_1.out.box 5 rfl
  have c6 := cellsA A_1.out.box 6 rfl
  have c7 := cellsA A_1.out.box 7 rfl
  have c8 := cellsA A_1.out.box 8 rfl
  have c9 := cellsA A_1.out.box 9 rfl
  have c10 := cellsA A_1.out.box 10 rfl
  have c11 := cellsA A_1.out.box 11 rfl
  have c12 := cellsA A_1.out.box 12 rfl
  go_wp2_with fail
  clear c0 c1 c2 c3 c4 c5 c6 c7 c8 c9 c10 c11 c12
  refine (toRec_rd _ p0 _ (A_1.out.lo.rd rdRec_ok) (by have := HP0.out; omega)).mono ?_
  rintro e w3 ⟨⟨css0, rfl, hN⟩, hB⟩
  have hT : RcRec w3 css0 p0 := by obtain ⟨F9, hE9, _⟩ := hN; exact owRec_ok.rd hE9
  clear hN
  have A_2 : Hd (VR 28 RdRec (U0) w.heap.size [.int .i64 p0.kind, .string p0.r.key, .int .i64 p0.r.t1, .slice A_x3 A_m3 A_d3, .int .i64 p0.r.t2, .slice A_x5 A_m5 A_d5, .int .i64 p0.r.has, .bool p0.r.aside, .string p0.key, .int .i64 p0.n, .int .i64 p0.who, .int .i64 p0.seq, .int .i64 p0.code] (p0) w3) := ⟨A_1.out.below (by have := S1.out; have := IV.out; omega) hB⟩
  have B2 : Hd (Below w.heap.size w w3) := ⟨Below.next B1.out hB⟩
  have S2 : Hd (U0 ≤ w3.heap.size) := ⟨Nat.le_trans S1.out hB.size⟩
  clear A_1 B1 S1
  clear hB
  have Ts0 : Hd (RcRec w3 css0 (p0)) := ⟨hT⟩
  clear hT
  go_wp2_with fail
  refine (specRecOk_rd _ p0 _ Ts0.out (by have := HP0.out; omega)).mono ?_
  rintro e w4 ⟨rfl, hB⟩
  rewrite [HR.out]
  clear Ts0
  have A_3 : Hd (VR 28 RdRec (U0) w.heap.size [.int .i64 p0.kind, .string p0.r.key, .int .i64 p0.r.t1, .slice A_x3 A_m3 A_d3, .int .i64 p0.r.t2, .slice A_x5 A_m5 A_d5, .int .i64 p0.r.has, .bool p0.r.aside, .string p0.key, .int .i64 p0.n, .int .i64 p0.who, .int .i64 p0.seq, .int .i64 p0.code] (p0) w4) := ⟨A_2.out.below (by have := S2.out; have := IV.out; omega) hB⟩
  have B3 : Hd (Below w.heap.size w w4) := ⟨Below.next B2.out hB⟩
  have S3 : Hd (U0 ≤ w4.heap.size) := ⟨Nat.le_trans S2.out hB.size⟩
  clear A_2 B2 S2
  clear hB
  have c0 := cellsA A_3.out.box 0 rfl
  have c1 := cellsA A_3.out.box 1 rfl
  have c2 := cellsA A_3.out.box 2 rfl
  have c3 := cellsA A_3.out.box 3 rfl
  have c4 := cellsA A_3.out.box 4 rfl
  have c5 := cellsA A_3.out.box 5 rfl
  have c6 := cellsA A_3.out.box 6 rfl
  have c7 := cellsA A_3.out.box 7 rfl
  have c8 := cellsA A_3.out.box 8 rfl
  have c9 := cellsA A_3.out.box 9 rfl
  have c10 := cellsA A_3.out.box 10 rfl
  have c11 := cellsA A_3.out.box 11 rfl
  have c12 := cellsA A_3.out.box 12 rfl
  go_wp2_with fail
  clear c0 c1 c2 c3 c4 c5 c6 c7 c8 c9 c10 c11 c12
  obtain ⟨LX, hLX⟩ : ∃ L, w4.heap.size = L := ⟨_, rfl⟩
  have hLS : U0 ≤ LX := by rw [← hLX]; exact S3.out
  refine (toRec_rd _ p0 _ (A_3.out.lo.rd rdRec_ok) (by have := HP0.out; omega)).mono ?_
  rintro e w5 ⟨⟨csr, rfl, hA⟩, hB⟩
  rw [hLX] at hA
  obtain ⟨F9, hE9, _⟩ := id hA
  have hA8 := hE9
  simp only [OwRec] at hA8
  obtain ⟨X_x3, X_m3, X_d3, X_x5, X_m5, X_d5, _, rfl, _⟩ := hA8
  clear hE9
  have hLv : LX ≤ w5.heap.size := by rw [← hLX]; exact hB.size
  clear hLX
  have A_4 : Hd (VR 28 RdRec (U0) w.heap.size [.int .i64 p0.kind, .string p0.r.key, .int .i64 p0.r.t1, .slice A_x3 A_m3 A_d3, .int .i64 p0.r.t2, .slice A_x5 A_m5 A_d5, .int .i64 p0.r.has, .bool p0.r.aside, .string p0.key, .int .i64 p0.n, .int .i64 p0.who, .int .i64 p0.seq, .int .i64 p0.code] (p0) w5) := ⟨A_3.out.below (by have := S3.out; have := IV.out; omega) hB⟩
  have B4 : Hd (Below w.heap.size w w5) := ⟨Below.next B3.out hB⟩
  have S4 : Hd (U0 ≤ w5.heap.size) := ⟨Nat.le_trans S3.out hB.size⟩
  clear A_3 B3 S3
  clear hB
  obtain ⟨bX, hb9⟩ : ∃ b, w5.heap.size = b := ⟨_, rfl⟩
  obtain ⟨w6, hW9⟩ : ∃ W, w5.alloc (.cells #[.int .i64 p0.kind, .string p0.r.key, .int .i64 p0.r.t1, .slice X_x3 X_m3 X_d3, .int .i64 p0.r.t2, .slice X_x5 X_m5 X_d5, .int .i64 p0.r.has, .bool p0.r.aside, .string p0.key, .int .i64 p0.n, .int .i64 p0.who, .int .i64 p0.seq, .int .i64 p0.code] 35) = W := ⟨_, rfl⟩
  have hBx : Below w5.heap.size w5 w6 := by rw [← hW9]; exact below_lit _ _
  have hsz : bX + 1 ≤ w6.heap.size := by rw [← hW9, ← hb9]; simp
  have hLb : LX ≤ bX := by rw [← hb9]; exact hLv
  obtain ⟨FX, hX⟩ := vo_new (T := 35) owRec_ok hA hLv
  rw [hb9] at hX
  have hX2 : VO 35 OwRec LX (bX + 1) bX [.int .i64 p0.kind, .string p0.r.key, .int .i64 p0.r.t1, .slice X_x3 X_m3 X_d3, .int .i64 p0.r.t2, .slice X_x5 X_m5 X_d5, .int .i64 p0.r.has, .bool p0.r.aside, .string p0.key, .int .i64 p0.n, .int .i64 p0.who, .int .i64 p0.seq, .int .i64 p0.code] FX (p0) w6 := by rw [← hW9]; exact hX
  clear hX
  clear hA
  have HW9 : Hd (w5.alloc (.cells #[.int .i64 p0.kind, .string p0.r.key, .int .i64 p0.r.t1, .slice X_x3 X_m3 X_d3, .int .i64 p0.r.t2, .slice X_x5 X_m5 X_d5, .int .i64 p0.r.has, .bool p0.r.aside, .string p0.key, .int .i64 p0.n, .int .i64 p0.who, .int .i64 p0.seq, .int .i64 p0.code] 35) = w6 ∧ w5.heap.size = bX) := ⟨hW9, hb9⟩
  clear hW9 hb9
  have A_5 : Hd (VR 28 RdRec (U0) w.heap.size [.int .i64 p0.kind, .string p0.r.key, .int .i64 p0.r.t1, .slice A_x3 A_m3 A_d3, .int .i64 p0.r.t2, .slice A_x5 A_m5 A_d5, .int .i64 p0.r.has, .bool p0.r.aside, .string p0.key, .int .i64 p0.n, .int .i64 p0.who, .int .i64 p0.seq, .int .i64 p0.code] (p0) w6) := ⟨A_4.out.below (by have := S4.out; have := IV.out; omega) hBx⟩
  have B5 : Hd (Below w.heap.size w w6) := ⟨Below.next B4.out hBx⟩
  have S5 : Hd (U0 ≤ w6.heap.size) := ⟨Nat.le_trans S4.out hBx.size⟩
  clear A_4 B4 S4
  clear hBx
  have IV2 : Hd (w.heap.size + 1 = U0 ∧ U0 ≤ LX ∧ LX ≤ bX) := ⟨by have := IV.out; omega⟩
  clear IV hLS hLb hLv
  have IV := IV2
  clear IV2
  have S6 : Hd (bX + 1 ≤ w6.heap.size) := ⟨hsz⟩
  clear S5 hsz
  have X_0 : Hd (VO 35 OwRec LX (bX + 1) bX [.int .i64 p0.kind, .string p0.r.key, .int .i64 p0.r.t1, .slice X_x3 X_m3 X_d3, .int .i64 p0.r.t2, .slice X_x5 X_m5 X_d5, .int .i64 p0.r.has, .bool p0.r.aside, .string p0.key, .int .i64 p0.n, .int .i64 p0.who, .int .i64 p0.seq, .int .i64 p0.code] FX (p0) w6) := ⟨hX2⟩
  clear hX2
  have hW9 := HW9.out.1
  have hb9 := HW9.out.2
  have c0 := cellsA X_0.out.box 0 rfl
  have c1 := cellsA X_0.out.box 1 rfl
  have c2 := cellsA X_0.out.box 2 rfl
  have c3 := cellsA X_0.out.box 3 rfl
  have c4 := cellsA X_0.out.box 4 rfl
  have c5 := cellsA X_0.out.box 5 rfl
  have c6 := cellsA X_0.out.box 6 rfl
  have c7 := cellsA X_0.out.box 7 rfl
  have c8 := cellsA X_0.out.box 8 rfl
  have c9 := cellsA X_0.out.box 9 rfl
  have c10 := cellsA X_0.out.box 10 rfl
  have c11 := cellsA X_0.out.box 11 rfl
  have c12 := cellsA X_0.out.box 12 rfl
  go_wp2_with fail
  clear hW9 hb9 HW9 c0 c1 c2 c3 c4 c5 c6 c7 c8 c9 c10 c11 c12
  refine (implRecOk_rd _ p0 _ (owRec_ok.rd X_0.out.own) (by have := HP0.out; omega) ⟨T.out.below B5.out⟩).mono ?_
  rintro e w7 ⟨rfl, hB⟩
  rewrite [HR.out]
  have A_6 : Hd (VR 28 RdRec (U0) w.heap.size [.int .i64 p0.kind, .string p0.r.key, .int .i64 p0.r.t1, .slice A_x3 A_m3 A_d3, .int .i64 p0.r.t2, .slice A_x5 A_m5 A_d5, .int .i64 p0.r.has, .bool p0.r.aside, .string p0.key, .int .i64 p0.n, .int .i64 p0.who, .int .i64 p0.seq, .int .i64 p0.code] (p0) w7) := ⟨A_5.out.below (by have := S6.out; have := IV.out; omega) hB⟩
  have X_1 : Hd (VO 35 OwRec LX (bX + 1) bX [.int .i64 p0.kind, .string p0.r.key, .int .i64 p0.r.t1, .slice X_x3 X_m3 X_d3, .int .i64 p0.r.t2, .slice X_x5 X_m5 X_d5, .int .i64 p0.r.has, .bool p0.r.aside, .string p0.key, .int .i64 p0.n, .int .i64 p0.who, .int .i64 p0.seq, .int .i64 p0.code] FX (p0) w7) := ⟨X_0.out.below owRec_ok hB⟩
  have B7 : Hd (Below w.heap.size w w7) := ⟨Below.next B5.out hB⟩
  have S7 : Hd (bX + 1 ≤ w7.heap.size) := ⟨Nat.le_trans S6.out hB.size⟩
  clear A_5 X_0 B5 S6
  clear hB
  have c0 := cellsA X_1.out.box 0 rfl
  have c1 := cellsA X_1.out.box 1 rfl
  have c2 := cellsA X_1.out.box 2 rfl
  have c3 := cellsA X_1.out.box 3 rfl
  have c4 := cellsA X_1.out.box 4 rfl
  have c5 := cellsA X_1.out.box 5 rfl
  have c6 := cellsA X_1.out.box 6 rfl
  have c7 := cellsA X_1.out.box 7 rfl
  have c8 := cellsA X_1.out.box 8 rfl
  have c9 := cellsA X_1.out.box 9 rfl
  have c10 := cellsA X_1.out.box 10 rfl
  have c11 := cellsA X_1.out.box 11 rfl
  have c12 := cellsA X_1.out.box 12 rfl
  have g0 := cellsA A_6.out.box 0 rfl
  have g1 := cellsA A_6.out.box 1 rfl
  have g2 := cellsA A_6.out.box 2 rfl
  have g3 := cellsA A_6.out.box 3 rfl
  have g4 := cellsA A_6.out.box 4 rfl
  have g5 := cellsA A_6.out.box 5 rfl
  have g6 := cellsA A_6.out.box 6 rfl
  have g7 := cellsA A_6.out.box 7 rfl
  have g8 := cellsA A_6.out.box 8 rfl
  have g9 := cellsA A_6.out.box 9 rfl
  have g10 := cellsA A_6.out.box 10 rfl
  have g11 := cellsA A_6.out.box 11 rfl
  have g12 := cellsA A_6.out.box 12 rfl
  go_wp2_with fail
  clear c0 c1 c2 c3 c4 c5 c6 c7 c8 c9 c10 c11 c12 g0 g1 g2 g3 g4 g5 g6 g7 g8 g9 g10 g11 g12
  have KK : Hd (∀ w', Below w7.heap.size w7 w' → (w'.cell? ⟨bX, 0, none⟩ = some (.int .i64 p0.kind) ∧ w'.cell? ⟨bX, 1, none⟩ = some (.string p0.r.key) ∧ w'.cell? ⟨bX, 2, none⟩ = some (.int .i64 p0.r.t1) ∧ w'.cell? ⟨bX, 3, none⟩ = some (.slice X_x3 X_m3 X_d3) ∧ w'.cell? ⟨bX, 4, none⟩ = some (.int .i64 p0.r.t2) ∧ w'.cell? ⟨bX, 5, none⟩ = some (.slice X_x5 X_m5 X_d5) ∧ w'.cell? ⟨bX, 6, none⟩ = some (.int .i64 p0.r.has) ∧ w'.cell? ⟨bX, 7, none⟩ = some (.bool p0.r.aside) ∧ w'.cell? ⟨bX, 8, none⟩ = some (.string p0.key) ∧ w'.cell? ⟨bX, 9, none⟩ = some (.int .i64 p0.n) ∧ w'.cell? ⟨bX, 10, none⟩ = some (.int .i64 p0.who) ∧ w'.cell? ⟨bX, 11, none⟩ = some (.int .i64 p0.seq) ∧ w'.cell? ⟨bX, 12, none⟩ = some (.int .i64 p0.code) ∧ w'.cell? ⟨w.heap.size, 0, none⟩ = some (.int .i64 p0.kind) ∧ w'.cell? ⟨w.heap.size, 1, none⟩ = some (.string p0.r.key) ∧ w'.cell? ⟨w.heap.size, 2, none⟩ = some (.int .i64 p0.r.t1) ∧ w'.cell? ⟨w.heap.size, 3, none⟩ = some (.slice A_x3 A_m3 A_d3) ∧ w'.cell? ⟨w.heap.size, 4, none⟩ = some (.int .i64 p0.r.t2) ∧ w'.cell? ⟨w.heap.size, 5, none⟩ = some (.slice A_x5 A_m5 A_d5) ∧ w'.cell? ⟨w.heap.size, 6, none⟩ = some (.int .i64 p0.r.has) ∧ w'.cell? ⟨w.heap.size, 7, none⟩ = some (.bool p0.r.aside) ∧ w'.cell? ⟨w.heap.size, 8, none⟩ = some (.string p0.key) ∧ w'.cell? ⟨w.heap.size, 9, none⟩ = some (.int .i64 p0.n) ∧ w'.cell? ⟨w.heap.size, 10, none⟩ = some (.int .i64 p0.who) ∧ w'.cell? ⟨w.heap.size, 11, none⟩ = some (.int .i64 p0.seq) ∧ w'.cell? ⟨w.heap.size, 12, none⟩ = some (.int .i64 p0.code))) := ⟨fun w' hb => ⟨cell_below (cellsA X_1.out.box 0 rfl) hb, cell_below (cellsA X_1.out.box 1 rfl) hb, cell_below (cellsA X_1.out.box 2 rfl) hb, cell_below (cellsA X_1.out.box 3 rfl) hb, cell_below (cellsA X_1.out.box 4 rfl) hb, cell_below (cellsA X_1.out.box 5 rfl) hb, cell_below (cellsA X_1.out.box 6 rfl) hb, cell_below (cellsA X_1.out.box 7 rfl) hb, cell_below (cellsA X_1.out.box 8 rfl) hb, cell_below (cellsA X_1.out.box 9 rfl) hb, cell_below (cellsA X_1.out.box 10 rfl) hb, cell_below (cellsA X_1.out.box 11 rfl) hb, cell_below (cellsA X_1.out.box 12 rfl) hb, cell_below (cellsA A_6.out.box 0 rfl) hb, cell_below (cellsA A_6.out.box 1 rfl) hb, cell_below (cellsA A_6.out.box 2 rfl) hb, cell_below (cellsA A_6.out.box 3 rfl) hb, cell_below (cellsA A_6.out.box 4 rfl) hb, cell_below (cellsA A_6.out.box 5 rfl) hb, cell_below (cellsA A_6.out.box 6 rfl) hb, cell_below (cellsA A_6.out.box 7 rfl) hb, cell_below (cellsA A_6.out.box 8 rfl) hb, cell_below (cellsA A_6.out.box 9 rfl) hb, cell_below (cellsA A_6.out.box 10 rfl) hb, cell_below (cellsA A_6.out.box 11 rfl) hb, cell_below (cellsA A_6.out.box 12 rfl) hb⟩⟩
  have D0 : Hd (Below w7.heap.size w7 w7.drew) := ⟨(Below.refl _ w7).drew⟩
  have c0 := cellsA X_1.out.box 0 rfl
  have c1 := cellsA X_1.out.box 1 rfl
  have c2 := cellsA X_1.out.box 2 rfl
  have c3 := cellsA X_1.out.box 3 rfl
  have c4 := cellsA X_1.out.box 4 rfl
  have c5 := cellsA X_1.out.box 5 rfl
  have c6 := cellsA X_1.out.box 6 rfl
  have c7 := cellsA X_1.out.box 7 rfl
  have c8 := cellsA X_1.out.box 8 rfl
  have c9 := cellsA X_1.out.box 9 rfl
  have c10 := cellsA X_1.out.box 10 rfl
  have c11 := cellsA X_1.out.box 11 rfl
  have c12 := cellsA X_1.out.box 12 rfl
  have g0 := cellsA A_6.out.box 0 rfl
  have g1 := cellsA A_6.out.box 1 rfl
  have g2 := cellsA A_6.out.box 2 rfl
  have g3 := cellsA A_6.out.box 3 rfl
  have g4 := cellsA A_6.out.box 4 rfl
  have g5 := cellsA A_6.out.box 5 rfl
  have g6 := cellsA A_6.out.box 6 rfl
  have g7 := cellsA A_6.out.box 7 rfl
  have g8 := cellsA A_6.out.box 8 rfl
  have g9 := cellsA A_6.out.box 9 rfl
  have g10 := cellsA A_6.out.box 10 rfl
  have g11 := cellsA A_6.out.box 11 rfl
  have g12 := cellsA A_6.out.box 12 rfl
  go_region_held (fun w' => w'.cell? ⟨bX, 0, none⟩ = some (.int .i64 p0.kind) ∧ w'.cell? ⟨bX, 1, none⟩ = some (.string p0.r.key) ∧ w'.cell? ⟨bX, 2, none⟩ = some (.int .i64 p0.r.t1) ∧ w'.cell? ⟨bX, 3, none⟩ = some (.slice X_x3 X_m3 X_d3) ∧ w'.cell? ⟨bX, 4, none⟩ = some (.int .i64 p0.r.t2) ∧ w'.cell? ⟨bX, 5, none⟩ = some (.slice X_x5 X_m5 X_d5) ∧ w'.cell? ⟨bX, 6, none⟩ = some (.int .i64 p0.r.has) ∧ w'.cell? ⟨bX, 7, none⟩ = some (.bool p0.r.aside) ∧ w'.cell? ⟨bX, 8, none⟩ = some (.string p0.key) ∧ w'.cell? ⟨bX, 9, none⟩ = some (.int .i64 p0.n) ∧ w'.cell? ⟨bX, 10, none⟩ = some (.int .i64 p0.who) ∧ w'.cell? ⟨bX, 11, none⟩ = some (.int .i64 p0.seq) ∧ w'.cell? ⟨bX, 12, none⟩ = some (.int .i64 p0.code) ∧ w'.cell? ⟨w.heap.size, 0, none⟩ = some (.int .i64 p0.kind) ∧ w'.cell? ⟨w.heap.size, 1, none⟩ = some (.string p0.r.key) ∧ w'.cell? ⟨w.heap.size, 2, none⟩ = some (.int .i64 p0.r.t1) ∧ w'.cell? ⟨w.heap.size, 3, none⟩ = some (.slice A_x3 A_m3 A_d3) ∧ w'.cell? ⟨w.heap.size, 4, none⟩ = some (.int .i64 p0.r.t2) ∧ w'.cell? ⟨w.heap.size, 5, none⟩ = some (.slice A_x5 A_m5 A_d5) ∧ w'.cell? ⟨w.heap.size, 6, none⟩ = some (.int .i64 p0.r.has) ∧ w'.cell? ⟨w.heap.size, 7, none⟩ = some (.bool p0.r.aside) ∧ w'.cell? ⟨w.heap.size, 8, none⟩ = some (.string p0.key) ∧ w'.cell? ⟨w.heap.size, 9, none⟩ = some (.int .i64 p0.n) ∧ w'.cell? ⟨w.heap.size, 10, none⟩ = some (.int .i64 p0.who) ∧ w'.cell? ⟨w.heap.size, 11, none⟩ = some (.int .i64 p0.seq) ∧ w'.cell? ⟨w.heap.size, 12, none⟩ = some (.int .i64 p0.code)) (first | (with_reducible exact KK.out _ D2.out) | (with_reducible exact KK.out _ D1.out) | (with_reducible exact KK.out _ D0.out))
    (first | (go_at_call 8; refine (eqRec_rd _ cs9 p0 _ (rdRec_ok.below (rcRec_w (owRec_ok.rd X_1.out.own)) D1.out) R9.out (by have := HP0.out; omega)).mono ?_; rintro e w8 ⟨rfl, hB9⟩; have D2 : Hd (Below w7.heap.size w7 w8) := ⟨Below.next D1.out hB9⟩; clear hB9) | (go_at_call 6; refine (toRec_rd _ p0 _ (rdRec_ok.below (A_6.out.lo.rd rdRec_ok) D0.out) (by have := HP0.out; omega)).mono ?_; rintro e wv ⟨⟨cs9, rfl, hN9⟩, hB9⟩; have D1 : Hd (Below w7.heap.size w7 wv) := ⟨Below.next D0.out hB9⟩; have R9 : Hd (RdRec wv cs9 p0) := (⟨by obtain ⟨F9, hE9, _⟩ := hN9; exact rcRec_w (owRec_ok.rd hE9)⟩); clear hB9 hN9))
  have hB : Below w7.heap.size w7 w8 := D2.out
  clear D2 D1 D0 KK R9 c0 c1 c2 c3 c4 c5 c6 c7 c8 c9 c10 c11 c12 g0 g1 g2 g3 g4 g5 g6 g7 g8 g9 g10 g11 g12
  have A_7 : Hd (VR 28 RdRec (U0) w.heap.size [.int .i64 p0.kind, .string p0.r.key, .int .i64 p0.r.t1, .slice A_x3 A_m3 A_d3, .int .i64 p0.r.t2, .slice A_x5 A_m5 A_d5, .int .i64 p0.r.has, .bool p0.r.aside, .string p0.key, .int .i64 p0.n, .int .i64 p0.who, .int .i64 p0.seq, .int .i64 p0.code] (p0) w8) := ⟨A_6.out.below (by have := S7.out; have := IV.out; omega) hB⟩
  have X_2 : Hd (VO 35 OwRec LX (bX + 1) bX [.int .i64 p0.kind, .string p0.r.key, .int .i64 p0.r.t1, .slice X_x3 X_m3 X_d3, .int .i64 p0.r.t2, .slice X_x5 X_m5 X_d5, .int .i64 p0.r.has, .bool p0.r.aside, .string p0.key, .int .i64 p0.n, .int .i64 p0.who, .int .i64 p0.seq, .int .i64 p0.code] FX (p0) w8) := ⟨X_1.out.below owRec_ok hB⟩
  have B8 : Hd (Below w.heap.size w w8) := ⟨Below.next B7.out hB⟩
  have S8 : Hd (bX + 1 ≤ w8.heap.size) := ⟨Nat.le_trans S7.out hB.size⟩
  clear A_6 X_1 B7 S7
  clear hB
  go_wp2_with fail
  go_ret
  exact ⟨rfl, B8.out⟩

set_option maxRecDepth 100000 in
theorem lifted (os : Os) (started : os.Started) (H : Type) (enc : TypeId × Value → H) :
    ReturnsInHanded {} Tryd.checked os 3 .any (fun w args => (Rows.fnExactRecOkSpec.pre enc Tryd.prog Tryd.f3 Rows.fnExactRecOkRow.domain false w args ∧ laidMetH Tryd.prog Rows.fnExactRecOkRow.laid w) ∧ sizedMet enc Tryd.prog Tryd.f3 (OpenSpec.ofChange Rows.fnExactRecOkSpec) false w args)
      (Rows.fnExactRecOkSpec.post enc Tryd.prog Tryd.f3 false true false false) := by
  refine returnsInHanded_of_change_and (C := Tryd.checked) (X := fun w _ => laidMetH Tryd.prog Rows.fnExactRecOkRow.laid w) (fun _ _ _ hh h => h.of_heap hh) own started (by kernel_rfl) Tryd.func3
    (ChangeSpec.witness_shaped (enc := enc) (C := Tryd.checked) (os := os) (X := fun w _ => laidMetH Tryd.prog Rows.fnExactRecOkRow.laid w) false (World.laidAll Tryd.prog os Rows.fnExactRecOkRow.laid) #[.agg #[.int .i64 0, .string ByteArray.empty, .int .i64 0, .slice none 0 0, .int .i64 0, .slice none 0 0, .int .i64 0, .bool false, .string ByteArray.empty, .int .i64 0, .int .i64 0, .int .i64 0, .int .i64 0]] 8 (World.laidAll_os _ _ _)
      (World.shaped_of_ZipB (by kernel_rfl) (by kernel_rfl)) (by kernel_rfl) (by kernel_rfl) (by kernel_rfl)
      (by rw [MakeChecks.laidMetH_plain _ _ _ (by kernel_rfl)]; exact laidMet_laidAll _ (by kernel_rfl) (by kernel_rfl))) ?_
  intro W base args ds gs before hval0 hW _ _ hL _
  have hval : ∀ (j : Nat) t v, Tryd.f3.params[j]? = some t → args[j]? = some v → Value.okWide Tryd.prog W .any base t v := hval0
  have hW' := hW
  obtain ⟨p, q, hA0, hV, rfl, hfz, hnd⟩ := hW
  have hA : DataW.TrodAll enc Tryd.prog W 0 (fun _ => true) true Tryd.f3.params.toList args.toList ds p := hA0
  rw [Tryd.params3] at hA hval
  obtain ⟨v0, vs0, d0, ds0, p0, q0, hargs, rfl, rfl, h0, r0⟩ := trodAll_cons hA
  obtain ⟨rfl, rfl, rfl⟩ := trodAll_nil r0
  obtain rfl : args = #[v0] := by cases args; simp_all
  have hV1 : DataW.TrodVars enc Tryd.prog W (fun _ => true) Rows.fnExactRecOkSpec.vars gs q := hV
  obtain ⟨gv1, gv2, gv3, gv4, rfl⟩ : ∃ gv1 gv2 gv3 gv4, gs = [gv1, gv2, gv3, gv4] := by
    match gs, (vars_length hV1 : gs.length = 4) with
    | [gv1, gv2, gv3, gv4], _ => exact ⟨gv1, gv2, gv3, gv4, rfl⟩
  have k0 := h0
  have lt0 : ∀ x ∈ p0, x.block < W.heap.size := by obtain ⟨m, hm⟩ := k0; exact DataW.trod_lt m _ _ _ hm
  obtain ⟨cs0, rfl, _⟩ := okWide_struct Tryd.underlying28 (hval 0 28 v0 rfl rfl)
  obtain ⟨e0, g0⟩ : ∃ a, RdRec W cs0.toList a := by obtain ⟨fuel, hf⟩ := h0; exact rdRec_trod enc W 0 _ true fuel _ _ hf
  obtain ⟨A_x3, A_m3, A_d3, A_x5, A_m5, A_d5, hcs0, _⟩ := id g0
  obtain rfl : cs0 = #[.int .i64 e0.kind, .string e0.r.key, .int .i64 e0.r.t1, .slice A_x3 A_m3 A_d3, .int .i64 e0.r.t2, .slice A_x5 A_m5 A_d5, .int .i64 e0.r.has, .bool e0.r.aside, .string e0.key, .int .i64 e0.n, .int .i64 e0.who, .int .i64 e0.seq, .int .i64 e0.code] := by apply Array.toList_inj.1; rw [hcs0]
  clear hA0 hval0
  refine (walk A_x3 A_m3 A_d3 A_x5 A_m5 A_d5 e0 W g0 ⟨all_of hL⟩).mono fun e W' ⟨he, hg⟩ => ?_
  subst he
  exact ⟨_, rfl, _, _, _, [], _, q, hW', trodAll_mk1 (shut_bool Tryd.underlying4 _), (trodAll_cons_mk (Below.trod laidOut (by kernel_rfl) (of_decide_eq_true (by kernel_rfl)) k0 hg lt0) trodAll_mk0), Below.trodVars laidOut hg (by kernel_rfl) hV1, hg.frame _, fun h => by cases h⟩

theorem over : Rows.fnExactRecOkRow.holds Tryd.pinned (OpenSpec.ofChange Rows.fnExactRecOkSpec) :=
  OpenClaim.holds_of_wide 3 Tryd.f3 rfl rfl rfl rfl rfl rfl rfl ⟨rfl, rfl, rfl, rfl, rfl⟩ rfl rfl rfl rfl rfl (by kernel_rfl) Tryd.func3 (by kernel_rfl)
    (of_decide_eq_true (by kernel_rfl)) (by unfold Func.isWrapper; first | (rw [if_pos (by decide +kernel)]; kernel_rfl) | (rw [if_neg (by decide +kernel)]; exact ⟨rfl, rfl⟩))
    (fun os started H enc _ => lifted os started H enc)

theorem plain (f : FuncId) (fn : Func) (hf : Tryd.pinned.checked.prog.funcNamed Rows.fnExactRecOkRow.func = some f) (hfn : Tryd.pinned.checked.prog.funcs[f]? = some fn) :
    true = Tryd.pinned.checked.prog.looks [] ∧ ∀ (j : Nat) t, fn.params[j]? = some t → Tryd.pinned.checked.prog.wantsStandIn t = false := by
  obtain rfl : f = 3 := Option.some.inj ((show Tryd.prog.funcNamed Rows.fnExactRecOkRow.func = some 3 by kernel_rfl).symm.trans hf) |>.symm
  obtain rfl : fn = Tryd.f3 := (Option.some.inj (Tryd.func3.symm.trans hfn)).symm
  refine ⟨by kernel_rfl, fun j t ht => ?_⟩
  rw [Tryd.params3] at ht
  have hm : t ∈ [28] := by first | simpa using Array.mem_of_getElem? ht | (have h := Array.mem_of_getElem? ht; simp at h ⊢; rcases h with h | h | h | h <;> simp [h])
  have hall : ([28].all fun u => !Tryd.prog.wantsStandIn u) = true := by kernel_rfl
  exact (show Tryd.prog.wantsStandIn t = false by simpa using List.all_eq_true.1 hall t hm)

end Go.Proofs.YtbeiocngiippgaaDoor.fnExactRecOk

namespace Go.Proofs.YtbeiocngiippgaaDoor
theorem fnExactRecOkCard_holds : Rows.FnExactRecOkCardSaid :=
  Claim7.holds_tied_plain_at .later [] _ _ _ _ fnExactRecOk.over (fun _ h => by cases h) (by kernel_rfl) (fun _ h => by cases h) fnExactRecOk_row_tie rfl ⟨rfl, rfl⟩ (by kernel_rfl) rfl fnExactRecOk.plain (by kernel_rfl)
#print axioms fnExactRecOkCard_holds
end Go.Proofs.YtbeiocngiippgaaDoor
