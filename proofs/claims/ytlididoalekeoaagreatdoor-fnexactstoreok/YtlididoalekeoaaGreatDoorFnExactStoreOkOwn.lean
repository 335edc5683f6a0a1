/- StoreOk answers as its model, and changes nothing that it is given. -/
import Derived.Test.YtlididoalekeoaaGreatDoorCards
import Derived.Test.YtlididoalekeoaaGreatDoorTie
import Derived.WalkKit
import Derived.ProofKit
import Derived.OpenShut
import Derived.ShutString
import Derived.ChangeOld
import Derived.Below
import Derived.OpenVars
import Derived.Lay
import Derived.MakeChecks
import Derived.SevenTiedAt
import Derived.Stop.Joined
import Derived.Lib.SmallJoins
import Derived.Deep.RegionHeld3
import Derived.Deep.RegionHeldLaw
import Derived.Test.YtlididoalekeoaaGreatDoorMxStoreOk17
import Derived.Test.YtlididoalekeoaaGreatDoorMxStoreOk23
import Derived.Test.YtlididoalekeoaaGreatDoorMxStoreOk25
namespace Go.Proofs.YtlididoalekeoaaGreatDoor.fnExactStoreOk
open Go.ChangeShapes Go.WideShapes Go.ChangeAt Go.RowKit
set_option linter.unusedVariables false
set_option maxRecDepth 4000

theorem own : ownKnob Tryz.prog.godebug = none := by kernel_rfl
theorem laidOut : laidOutB Tryz.prog = true := by kernel_rfl

set_option maxHeartbeats 8000000 in
theorem walk (A_x0 : Option Addr) (A_m0 A_d0 : Nat) (A_x1 : Option Addr) (A_m1 A_d1 : Nat) (A_x4 : Option Addr) (A_m4 A_d4 : Nat) (A_x6 : Option Addr) (A_m6 A_d6 : Nat) (p0 : StoreD) (w : World) (h0 : RdStore w [.slice A_x0 A_m0 A_d0, .slice A_x1 A_m1 A_d1, .int .i64 p0.d.fuse, .bool p0.d.down, .slice A_x4 A_m4 A_d4, .int .i64 p0.t.phase, .slice A_x6 A_m6 A_d6, .int .i64 p0.gen, .int .i64 p0.place] p0) (T : Hd (AllAt w)) :
    Calls Tryz.prog 3 #[.agg #[.slice A_x0 A_m0 A_d0, .slice A_x1 A_m1 A_d1, .int .i64 p0.d.fuse, .bool p0.d.down, .slice A_x4 A_m4 A_d4, .int .i64 p0.t.phase, .slice A_x6 A_m6 A_d6, .int .i64 p0.gen, .int .i64 p0.place]] w fun e w' => e = .returned (.bool true) ∧ Below w.heap.size w w' := by
  have HA0 : Hd (RdStore w [.slice A_x0 A_m0 A_d0, .slice A_x1 A_m1 A_d1, .int .i64 p0.d.fuse, .bool p0.d.down, .slice A_x4 A_m4 A_d4, .int .i64 p0.t.phase, .slice A_x6 A_m6 A_d6, .int .i64 p0.gen, .int .i64 p0.place] p0) := ⟨h0⟩
  clear h0
  go_enter Tryz.func3, Tryz.ntmps3
  go_wp2_with fail
  obtain ⟨w1, hW0⟩ : ∃ W, w.alloc (.cells #[.slice A_x0 A_m0 A_d0, .slice A_x1 A_m1 A_d1, .int .i64 p0.d.fuse, .bool p0.d.down, .slice A_x4 A_m4 A_d4, .int .i64 p0.t.phase, .slice A_x6 A_m6 A_d6, .int .i64 p0.gen, .int .i64 p0.place] 31) = W := ⟨_, rfl⟩
  have B0 : Hd (Below w.heap.size w w1) := ⟨by rw [← hW0]; exact below_lit w _⟩
  have A_0 : Hd (BR 31 RdStore w.heap.size [.slice A_x0 A_m0 A_d0, .slice A_x1 A_m1 A_d1, .int .i64 p0.d.fuse, .bool p0.d.down, .slice A_x4 A_m4 A_d4, .int .i64 p0.t.phase, .slice A_x6 A_m6 A_d6, .int .i64 p0.gen, .int .i64 p0.place] (p0) w1) := ⟨by rw [← hW0]; exact br_new rdStore_ok HA0.out⟩
  rewrite [hW0]
  clear hW0 HA0
  refine (szStore_rd _ p0 (1048576) _ A_0.out.lo ⟨by omega, by omega⟩).mono ?_
  rintro e w2 ⟨⟨l0, rfl, hl1, hl2, hl3⟩, hB⟩
  have A_1 : Hd (BR 31 RdStore w.heap.size [.slice A_x0 A_m0 A_d0, .slice A_x1 A_m1 A_d1, .int .i64 p0.d.fuse, .bool p0.d.down, .slice A_x4 A_m4 A_d4, .int .i64 p0.t.phase, .slice A_x6 A_m6 A_d6, .int .i64 p0.gen, .int .i64 p0.place] (p0) w2) := ⟨A_0.out.below rdStore_ok hB⟩
  have B1 : Hd (Below w.heap.size w w2) := ⟨Below.next B0.out hB⟩
  clear A_0 B0
  clear hB
  by_cases hz0 : l0 < 0
  · go_wp2_with fail
    go_ret
    exact ⟨rfl, B1.out⟩
  have HP0 : Hd (wtStore p0 ≤ 1048576) := ⟨by have := hl3 (by omega); omega⟩
  clear hl1 hl3
  obtain ⟨r, hr⟩ : ∃ r, storeOk p0 = r := ⟨_, rfl⟩
  have HR : Hd (storeOk p0 = r) := ⟨hr⟩
  clear hr
  have hrr : (r != r) = false := by simp
  have c0 := cellsA A_1.out.box 0 rfl
  have c1 := cellsA A_1.out.box 1 rfl
  have c2 := cellsA A_1.out.box 2 rfl
  have c3 := cellsA A_1.out.box 3 rfl
  have c4 := cellsA A_1.out.box 4 rfl
  have c5 := cellsA A_1.out.box 5 rfl
  have c6 := cellsA A_1.out.box 6 rfl
  have c7 := cellsA A_1.out.box 7 rfl
  have c8 := cellsA A_1.out.box 8 rfl
  go_wp2_with fail
  clear c0 c1 c2 c3 c4 c5 c6 c7 c8
  refine (toStore_rd _ p0 _ A_1.out.lo (by have := HP0.out; omega)).mono ?_
  rintro e w3 ⟨⟨css0, rfl, hN⟩, hB⟩
  have hT : RcStore w3 css0 p0 := by obtain ⟨F9, hE9, _⟩ := hN; exact owStore_ok.rd hE9
  clear hN
  have A_2 : Hd (BR 31 RdStore w.heap.size [.slice A_x0 A_m0 A_d0, .slice A_x1 A_m1 A_d1, .int .i64 p0.d.fuse, .bool p0.d.down, .slice A_x4 A_m4 A_d4, .int .i64 p0.t.phase, .slice A_x6 A_m6 A_d6, .int .i64 p0.gen, .int .i64 p0.place] (p0) w3) := ⟨A_1.out.below rdStore_ok hB⟩
  have B2 : Hd (Below w.heap.size w w3) := ⟨Below.next B1.out hB⟩
  clear A_1 B1
  clear hB
  have Ts0 : Hd (RcStore w3 css0 (p0)) := ⟨hT⟩
  clear hT
  go_wp2_with fail
  refine (specStoreOk_rd _ p0 _ Ts0.out (by have := HP0.out; omega) ).mono ?_
  rintro e w4 ⟨rfl, hB⟩
  rewrite [HR.out]
  clear Ts0
  have A_3 : Hd (BR 31 RdStore w.heap.size [.slice A_x0 A_m0 A_d0, .slice A_x1 A_m1 A_d1, .int .i64 p0.d.fuse, .bool p0.d.down, .slice A_x4 A_m4 A_d4, .int .i64 p0.t.phase, .slice A_x6 A_m6 A_d6, .int .i64 p0.gen, .int .i64 p0.place] (p0) w4) := ⟨A_2.out.below rdStore_ok hB⟩
  have B3 : Hd (Below w.heap.size w w4) := ⟨Below.next B2.out hB⟩
  clear A_2 B2
  clear hB
  have c0 := cellsA A_3.out.box 0 rfl
  have c1 := cellsA A_3.out.box 1 rfl
  have c2 := cellsA A_3.out.box 2 rfl
  have c3 := cellsA A_3.out.box 3 rfl
  have c4 := cellsA A_3.out.box 4 rfl
  have c5 := cellsA A_3.out.box 5 rfl
  have c6 := cellsA A_3.out.box 6 rfl
  have c7 := cellsA A_3.out.box 7 rfl
  have c8 := cellsA A_3.out.box 8 rfl
  go_wp2_with fail
  clear c0 c1 c2 c3 c4 c5 c6 c7 c8
  refine (toStore_rd _ p0 _ A_3.out.lo (by have := HP0.out; omega)).mono ?_
  rintro e w5 ⟨⟨csr, rfl, hA⟩, hB⟩
  obtain ⟨F9, hE9, _⟩ := hA
  have hA := owStore_ok.rd hE9
  clear hE9
  have hA8 := hA
  simp only [RcStore] at hA8
  obtain ⟨X_x0, X_m0, X_d0, X_x1, X_m1, X_d1, X_x4, X_m4, X_d4, X_x6, X_m6, X_d6, rfl, _⟩ := hA8
  have A_4 : Hd (BR 31 RdStore w.heap.size [.slice A_x0 A_m0 A_d0, .slice A_x1 A_m1 A_d1, .int .i64 p0.d.fuse, .bool p0.d.down, .slice A_x4 A_m4 A_d4, .int .i64 p0.t.phase, .slice A_x6 A_m6 A_d6, .int .i64 p0.gen, .int .i64 p0.place] (p0) w5) := ⟨A_3.out.below rdStore_ok hB⟩
  have B4 : Hd (Below w.heap.size w w5) := ⟨Below.next B3.out hB⟩
  clear A_3 B3
  clear hB
  obtain ⟨bX, hbX⟩ : ∃ b, w5.heap.size = b := ⟨_, rfl⟩
  obtain ⟨w6, hW9⟩ : ∃ W, w5.alloc (.cells #[.slice X_x0 X_m0 X_d0, .slice X_x1 X_m1 X_d1, .int .i64 p0.d.fuse, .bool p0.d.down, .slice X_x4 X_m4 X_d4, .int .i64 p0.t.phase, .slice X_x6 X_m6 X_d6, .int .i64 p0.gen, .int .i64 p0.place] 42) = W := ⟨_, rfl⟩
  have hBx : Below w5.heap.size w5 w6 := by rw [← hW9]; exact below_lit _ _
  have X_0 : Hd (BR 42 RcStore bX [.slice X_x0 X_m0 X_d0, .slice X_x1 X_m1 X_d1, .int .i64 p0.d.fuse, .bool p0.d.down, .slice X_x4 X_m4 X_d4, .int .i64 p0.t.phase, .slice X_x6 X_m6 X_d6, .int .i64 p0.gen, .int .i64 p0.place] (p0) w6) := ⟨by rw [← hW9, ← hbX]; exact br_new rcStore_ok hA⟩
  clear hA
  have A_5 : Hd (BR 31 RdStore w.heap.size [.slice A_x0 A_m0 A_d0, .slice A_x1 A_m1 A_d1, .int .i64 p0.d.fuse, .bool p0.d.down, .slice A_x4 A_m4 A_d4, .int .i64 p0.t.phase, .slice A_x6 A_m6 A_d6, .int .i64 p0.gen, .int .i64 p0.place] (p0) w6) := ⟨A_4.out.below rdStore_ok hBx⟩
  have B5 : Hd (Below w.heap.size w w6) := ⟨Below.next B4.out hBx⟩
  clear A_4 B4
  clear hBx
  have c0 := cellsA X_0.out.box 0 rfl
  have c1 := cellsA X_0.out.box 1 rfl
  have c2 := cellsA X_0.out.box 2 rfl
  have c3 := cellsA X_0.out.box 3 rfl
  have c4 := cellsA X_0.out.box 4 rfl
  have c5 := cellsA X_0.out.box 5 rfl
  have c6 := cellsA X_0.out.box 6 rfl
  have c7 := cellsA X_0.out.box 7 rfl
  have c8 := cellsA X_0.out.box 8 rfl
  go_wp2_with fail
  clear hW9 hbX c0 c1 c2 c3 c4 c5 c6 c7 c8
  refine (implStoreOk_rd _ p0 _ X_0.out.lo (by have := HP0.out; omega)  ⟨T.out.below B5.out⟩).mono ?_
  rintro e w7 ⟨rfl, hB⟩
  rewrite [HR.out]
  have A_6 : Hd (BR 31 RdStore w.heap.size [.slice A_x0 A_m0 A_d0, .slice A_x1 A_m1 A_d1, .int .i64 p0.d.fuse, .bool p0.d.down, .slice A_x4 A_m4 A_d4, .int .i64 p0.t.phase, .slice A_x6 A_m6 A_d6, .int .i64 p0.gen, .int .i64 p0.place] (p0) w7) := ⟨A_5.out.below rdStore_ok hB⟩
  have X_1 : Hd (BR 42 RcStore bX [.slice X_x0 X_m0 X_d0, .slice X_x1 X_m1 X_d1, .int .i64 p0.d.fuse, .bool p0.d.down, .slice X_x4 X_m4 X_d4, .int .i64 p0.t.phase, .slice X_x6 X_m6 X_d6, .int .i64 p0.gen, .int .i64 p0.place] (p0) w7) := ⟨X_0.out.below rcStore_ok hB⟩
  have B6 : Hd (Below w.heap.size w w7) := ⟨Below.next B5.out hB⟩
  clear A_5 X_0 B5
  clear hB
  have c0 := cellsA X_1.out.box 0 rfl
  have c1 := cellsA X_1.out.box 1 rfl
  have c2 := cellsA X_1.out.box 2 rfl
  have c3 := cellsA X_1.out.box 3 rfl
  have c4 := cellsA X_1.out.box 4 rfl
  have c5 := cellsA X_1.out.box 5 rfl
  have c6 := cellsA X_1.out.box 6 rfl
  have c7 := cellsA X_1.out.box 7 rfl
  have c8 := cellsA X_1.out.box 8 rfl
  have g0 := cellsA A_6.out.box 0 rfl
  have g1 := cellsA A_6.out.box 1 rfl
  have g2 := cellsA A_6.out.box 2 rfl
  have g3 := cellsA A_6.out.box 3 rfl
  have g4 := cellsA A_6.out.box 4 rfl
  have g5 := cellsA A_6.out.box 5 rfl
  have g6 := cellsA A_6.out.box 6 rfl
  have g7 := cellsA A_6.out.box 7 rfl
  have g8 := cellsA A_6.out.box 8 rfl
  go_wp2_with fail
  clear c0 c1 c2 c3 c4 c5 c6 c7 c8 g0 g1 g2 g3 g4 g5 g6 g7 g8
  have KK : Hd (∀ w', Below w7.heap.size w7 w' → (w'.cell? ⟨bX, 0, none⟩ = some (.slice X_x0 X_m0 X_d0) ∧ w'.cell? ⟨bX, 1, none⟩ = some (.slice X_x1 X_m1 X_d1) ∧ w'.cell? ⟨bX, 2, none⟩ = some (.int .i64 p0.d.fuse) ∧ w'.cell? ⟨bX, 3, none⟩ = some (.bool p0.d.down) ∧ w'.cell? ⟨bX, 4, none⟩ = some (.slice X_x4 X_m4 X_d4) ∧ w'.cell? ⟨bX, 5, none⟩ = some (.int .i64 p0.t.phase) ∧ w'.cell? ⟨bX, 6, none⟩ = some (.slice X_x6 X_m6 X_d6) ∧ w'.cell? ⟨bX, 7, none⟩ = some (.int .i64 p0.gen) ∧ w'.cell? ⟨bX, 8, none⟩ = some (.int .i64 p0.place) ∧ w'.cell? ⟨w.heap.size, 0, none⟩ = some (.slice A_x0 A_m0 A_d0) ∧ w'.cell? ⟨w.heap.size, 1, none⟩ = some (.slice A_x1 A_m1 A_d1) ∧ w'.cell? ⟨w.heap.size, 2, none⟩ = some (.int .i64 p0.d.fuse) ∧ w'.cell? ⟨w.heap.size, 3, none⟩ = some (.bool p0.d.down) ∧ w'.cell? ⟨w.heap.size, 4, none⟩ = some (.slice A_x4 A_m4 A_d4) ∧ w'.cell? ⟨w.heap.size, 5, none⟩ = some (.int .i64 p0.t.phase) ∧ w'.cell? ⟨w.heap.size, 6, none⟩ = some (.slice A_x6 A_m6 A_d6) ∧ w'.cell? ⟨w.heap.size, 7, none⟩ = some (.int .i64 p0.gen) ∧ w'.cell? ⟨w.heap.size, 8, none⟩ = some (.int .i64 p0.place))) := ⟨fun w' hb => ⟨cell_below (cellsA X_1.out.box 0 rfl) hb, cell_below (cellsA X_1.out.box 1 rfl) hb, cell_below (cellsA X_1.out.box 2 rfl) hb, cell_below (cellsA X_1.out.box 3 rfl) hb, cell_below (cellsA X_1.out.box 4 rfl) hb, cell_below (cellsA X_1.out.box 5 rfl) hb, cell_below (cellsA X_1.out.box 6 rfl) hb, cell_below (cellsA X_1.out.box 7 rfl) hb, cell_below (cellsA X_1.out.box 8 rfl) hb, cell_below (cellsA A_6.out.box 0 rfl) hb, cell_below (cellsA A_6.out.box 1 rfl) hb, cell_below (cellsA A_6.out.box 2 rfl) hb, cell_below (cellsA A_6.out.box 3 rfl) hb, cell_below (cellsA A_6.out.box 4 rfl) hb, cell_below (cellsA A_6.out.box 5 rfl) hb, cell_below (cellsA A_6.out.box 6 rfl) hb, cell_below (cellsA A_6.out.box 7 rfl) hb, cell_below (cellsA A_6.out.box 8 rfl) hb⟩⟩
  have D0 : Hd (Below w7.heap.size w7 w7.drew) := ⟨(Below.refl _ w7).drew⟩
  have c0 := cellsA X_1.out.box 0 rfl
  have c1 := cellsA X_1.out.box 1 rfl
  have c2 := cellsA X_1.out.box 2 rfl
  have c3 := cellsA X_1.out.box 3 rfl
  have c4 := cellsA X_1.out.box 4 rfl
  have c5 := cellsA X_1.out.box 5 rfl
  have c6 := cellsA X_1.out.box 6 rfl
  have c7 := cellsA X_1.out.box 7 rfl
  have c8 := cellsA X_1.out.box 8 rfl
  have g0 := cellsA A_6.out.box 0 rfl
  have g1 := cellsA A_6.out.box 1 rfl
  have g2 := cellsA A_6.out.box 2 rfl
  have g3 := cellsA A_6.out.box 3 rfl
  have g4 := cellsA A_6.out.box 4 rfl
  have g5 := cellsA A_6.out.box 5 rfl
  have g6 := cellsA A_6.out.box 6 rfl
  have g7 := cellsA A_6.out.box 7 rfl
  have g8 := cellsA A_6.out.box 8 rfl
  go_region_held (fun w' => w'.cell? ⟨bX, 0, none⟩ = some (.slice X_x0 X_m0 X_d0) ∧ w'.cell? ⟨bX, 1, none⟩ = some (.slice X_x1 X_m1 X_d1) ∧ w'.cell? ⟨bX, 2, none⟩ = some (.int .i64 p0.d.fuse) ∧ w'.cell? ⟨bX, 3, none⟩ = some (.bool p0.d.down) ∧ w'.cell? ⟨bX, 4, none⟩ = some (.slice X_x4 X_m4 X_d4) ∧ w'.cell? ⟨bX, 5, none⟩ = some (.int .i64 p0.t.phase) ∧ w'.cell? ⟨bX, 6, none⟩ = some (.slice X_x6 X_m6 X_d6) ∧ w'.cell? ⟨bX, 7, none⟩ = some (.int .i64 p0.gen) ∧ w'.cell? ⟨bX, 8, none⟩ = some (.int .i64 p0.place) ∧ w'.cell? ⟨w.heap.size, 0, none⟩ = some (.slice A_x0 A_m0 A_d0) ∧ w'.cell? ⟨w.heap.size, 1, none⟩ = some (.slice A_x1 A_m1 A_d1) ∧ w'.cell? ⟨w.heap.size, 2, none⟩ = some (.int .i64 p0.d.fuse) ∧ w'.cell? ⟨w.heap.size, 3, none⟩ = some (.bool p0.d.down) ∧ w'.cell? ⟨w.heap.size, 4, none⟩ = some (.slice A_x4 A_m4 A_d4) ∧ w'.cell? ⟨w.heap.size, 5, none⟩ = some (.int .i64 p0.t.phase) ∧ w'.cell? ⟨w.heap.size, 6, none⟩ = some (.slice A_x6 A_m6 A_d6) ∧ w'.cell? ⟨w.heap.size, 7, none⟩ = some (.int .i64 p0.gen) ∧ w'.cell? ⟨w.heap.size, 8, none⟩ = some (.int .i64 p0.place)) (first | (with_reducible exact KK.out _ D2.out) | (with_reducible exact KK.out _ D1.out) | (with_reducible exact KK.out _ D0.out))
    (first | (go_at_call 8; refine (eqStore_rd _ cs9 p0 _ (rdStore_ok.below (rcStore_w X_1.out.lo) D1.out) R9.out (by have := HP0.out; omega)).mono ?_; rintro e w8 ⟨rfl, hB9⟩; have D2 : Hd (Below w7.heap.size w7 w8) := ⟨Below.next D1.out hB9⟩; clear hB9) | (go_at_call 6; refine (toStore_rd _ p0 _ (rdStore_ok.below A_6.out.lo D0.out) (by have := HP0.out; omega)).mono ?_; rintro e wv ⟨⟨cs9, rfl, hN9⟩, hB9⟩; have D1 : Hd (Below w7.heap.size w7 wv) := ⟨Below.next D0.out hB9⟩; have R9 : Hd (RdStore wv cs9 p0) := (⟨by obtain ⟨F9, hE9, _⟩ := hN9; exact rcStore_w (owStore_ok.rd hE9)⟩); clear hB9 hN9))
  have hB : Below w7.heap.size w7 w8 := D2.out
  clear D2 D1 D0 KK R9 c0 c1 c2 c3 c4 c5 c6 c7 c8 g0 g1 g2 g3 g4 g5 g6 g7 g8
  have A_7 : Hd (BR 31 RdStore w.heap.size [.slice A_x0 A_m0 A_d0, .slice A_x1 A_m1 A_d1, .int .i64 p0.d.fuse, .bool p0.d.down, .slice A_x4 A_m4 A_d4, .int .i64 p0.t.phase, .slice A_x6 A_m6 A_d6, .int .i64 p0.gen, .int .i64 p0.place] (p0) w8) := ⟨A_6.out.below rdStore_ok hB⟩
  have X_2 : Hd (BR 42 RcStore bX [.slice X_x0 X_m0 X_d0, .slice X_x1 X_m1 X_d1, .int .i64 p0.d.fuse, .bool p0.d.down, .slice X_x4 X_m4 X_d4, .int .i64 p0.t.phase, .slice X_x6 X_m6 X_d6, .int .i64 p0.gen, .int .i64 p0.place] (p0) w8) := ⟨X_1.out.below rcStore_ok hB⟩
  have B7 : Hd (Below w.heap.size w w8) := ⟨Below.next B6.out hB⟩
  clear A_6 X_1 B6
  clear hB
  go_wp2_with fail
  go_ret
  exact ⟨rfl, B7.out⟩

set_option maxRecDepth 100000 in
theorem lifted (os : Os) (started : os.Started) (H : Type) (enc : TypeId × Value → H) :
    ReturnsInHanded {} Tryz.checked os 3 .any (fun w args => (Rows.fnExactStoreOkSpec.pre enc Tryz.prog Tryz.f3 Rows.fnExactStoreOkRow.domain false w args ∧ laidMetH Tryz.prog Rows.fnExactStoreOkRow.laid w) ∧ sizedMet enc Tryz.prog Tryz.f3 (OpenSpec.ofChange Rows.fnExactStoreOkSpec) false w args)
      (Rows.fnExactStoreOkSpec.post enc Tryz.prog Tryz.f3 false true false false) := by
  refine returnsInHanded_of_change_and (C := Tryz.checked) (X := fun w _ => laidMetH Tryz.prog Rows.fnExactStoreOkRow.laid w) (fun _ _ _ hh h => h.of_heap hh) own started (by kernel_rfl) Tryz.func3
    (ChangeSpec.witness_shaped (enc := enc) (C := Tryz.checked) (os := os) (X := fun w _ => laidMetH Tryz.prog Rows.fnExactStoreOkRow.laid w) false (World.laidAll Tryz.prog os Rows.fnExactStoreOkRow.laid) #[.agg #[.slice none 0 0, .slice none 0 0, .int .i64 0, .bool false, .slice none 0 0, .int .i64 0, .slice none 0 0, .int .i64 0, .int .i64 0]] 8 (World.laidAll_os _ _ _)
      (World.shaped_of_ZipB (by kernel_rfl) (by kernel_rfl)) (by kernel_rfl) (by kernel_rfl) (by kernel_rfl)
      (by rw [MakeChecks.laidMetH_plain _ _ _ (by kernel_rfl)]; exact laidMet_laidAll _ (by kernel_rfl) (by kernel_rfl))) ?_
  intro W base args ds gs before hval0 hW _ _ hL _
  have hval : ∀ (j : Nat) t v, Tryz.f3.params[j]? = some t → args[j]? = some v → Value.okWide Tryz.prog W .any base t v := hval0
  have hW' := hW
  obtain ⟨p, q, hA0, hV, rfl, hfz, hnd⟩ := hW
  have hA : DataW.TrodAll enc Tryz.prog W 0 (fun _ => true) true Tryz.f3.params.toList args.toList ds p := hA0
  rw [Tryz.params3] at hA hval
  obtain ⟨v0, vs0, d0, ds0, p0, q0, hargs, rfl, rfl, h0, r0⟩ := trodAll_cons hA
  obtain ⟨rfl, rfl, rfl⟩ := trodAll_nil r0
  obtain rfl : args = #[v0] := by cases args; simp_all
  have hV1 : DataW.TrodVars enc Tryz.prog W (fun _ => true) Rows.fnExactStoreOkSpec.vars gs q := hV
  obtain ⟨gv1, gv2, gv3, gv4, rfl⟩ : ∃ gv1 gv2 gv3 gv4, gs = [gv1, gv2, gv3, gv4] := by
    match gs, (vars_length hV1 : gs.length = 4) with
    | [gv1, gv2, gv3, gv4], _ => exact ⟨gv1, gv2, gv3, gv4, rfl⟩
  have k0 := h0
  have lt0 : ∀ x ∈ p0, x.block < W.heap.size := by obtain ⟨m, hm⟩ := k0; exact DataW.trod_lt m _ _ _ hm
  obtain ⟨cs0, rfl, _⟩ := okWide_struct Tryz.underlying31 (hval 0 31 v0 rfl rfl)
  obtain ⟨e0, g0⟩ : ∃ a, RdStore W cs0.toList a := by obtain ⟨fuel, hf⟩ := h0; exact rdStore_trod enc W 0 _ true fuel _ _ hf
  obtain ⟨A_x0, A_m0, A_d0, A_x1, A_m1, A_d1, A_x4, A_m4, A_d4, A_x6, A_m6, A_d6, hcs0, _⟩ := id g0
  obtain rfl : cs0 = #[.slice A_x0 A_m0 A_d0, .slice A_x1 A_m1 A_d1, .int .i64 e0.d.fuse, .bool e0.d.down, .slice A_x4 A_m4 A_d4, .int .i64 e0.t.phase, .slice A_x6 A_m6 A_d6, .int .i64 e0.gen, .int .i64 e0.place] := by apply Array.toList_inj.1; rw [hcs0]
  clear hA0 hval0
  refine (walk A_x0 A_m0 A_d0 A_x1 A_m1 A_d1 A_x4 A_m4 A_d4 A_x6 A_m6 A_d6 e0 W g0 ⟨all_of hL⟩).mono fun e W' ⟨he, hg⟩ => ?_
  subst he
  exact ⟨_, rfl, _, _, _, [], _, q, hW', trodAll_mk1 (shut_bool Tryz.underlying4 _), (trodAll_cons_mk (Below.trod laidOut (by kernel_rfl) (of_decide_eq_true (by kernel_rfl)) k0 hg lt0) trodAll_mk0), Below.trodVars laidOut hg (by kernel_rfl) hV1, hg.frame _, fun h => by cases h⟩

theorem over : Rows.fnExactStoreOkRow.holds Tryz.pinned (OpenSpec.ofChange Rows.fnExactStoreOkSpec) :=
  OpenClaim.holds_of_wide 3 Tryz.f3 rfl rfl rfl rfl rfl rfl rfl ⟨rfl, rfl, rfl, rfl, rfl⟩ rfl rfl rfl rfl rfl (by kernel_rfl) Tryz.func3 (by kernel_rfl)
    (of_decide_eq_true (by kernel_rfl)) (by unfold Func.isWrapper; first | (rw [if_pos (by decide +kernel)]; kernel_rfl) | (rw [if_neg (by decide +kernel)]; exact ⟨rfl, rfl⟩))
    (fun os started H enc _ => lifted os started H enc)

theorem plain (f : FuncId) (fn : Func) (hf : Tryz.pinned.checked.prog.funcNamed Rows.fnExactStoreOkRow.func = some f) (hfn : Tryz.pinned.checked.prog.funcs[f]? = some fn) :
    true = Tryz.pinned.checked.prog.looks [] ∧ ∀ (j : Nat) t, fn.params[j]? = some t → Tryz.pinned.checked.prog.wantsStandIn t = false := by
  obtain rfl : f = 3 := Option.some.inj ((show Tryz.prog.funcNamed Rows.fnExactStoreOkRow.func = some 3 by kernel_rfl).symm.trans hf) |>.symm
  obtain rfl : fn = Tryz.f3 := (Option.some.inj (Tryz.func3.symm.trans hfn)).symm
  refine ⟨by kernel_rfl, fun j t ht => ?_⟩
  rw [Tryz.params3] at ht
  have hm : t ∈ [31] := by first | simpa using Array.mem_of_getElem? ht | (have h := Array.mem_of_getElem? ht; simp at h ⊢; rcases h with h | h | h | h <;> simp [h])
  have hall : ([31].all fun u => !Tryz.prog.wantsStandIn u) = true := by kernel_rfl
  exact (show Tryz.prog.wantsStandIn t = false by simpa using List.all_eq_true.1 hall t hm)

end Go.Proofs.YtlididoalekeoaaGreatDoor.fnExactStoreOk

namespace Go.Proofs.YtlididoalekeoaaGreatDoor
theorem fnExactStoreOkCard_holds : Rows.FnExactStoreOkCardSaid :=
  Claim7.holds_tied_plain_at .later [] _ _ _ _ fnExactStoreOk.over (fun _ h => by cases h) (by kernel_rfl) (fun _ h => by cases h) fnExactStoreOk_row_tie rfl ⟨rfl, rfl⟩ (by kernel_rfl) rfl fnExactStoreOk.plain (by kernel_rfl)
#print axioms fnExactStoreOkCard_holds
end Go.Proofs.YtlididoalekeoaaGreatDoor
