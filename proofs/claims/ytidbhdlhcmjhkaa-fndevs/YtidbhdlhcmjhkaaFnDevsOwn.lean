/- FnDevs holds: whatever device is drawn, what is written is read, and is there once it is flushed; when the power goes each sector has what it had, or what was written to it since. -/
import Derived.Test.YtidbhdlhcmjhkaaRows
import Derived.WalkKit
import Derived.ProofKit
import Derived.OpenShut
import Derived.ShutString
import Derived.ChangeOld
import Derived.Below
import Derived.OpenVars
import Derived.Stop.Joined
import Derived.Lib.SmallJoins
import Derived.Deep.RegionHeld3
import Derived.Deep.RegionHeldLaw
import Derived.Test.YtidbhdlhcmjhkaaTrodB
import Derived.Test.YtidbhdlhcmjhkaaExactB
import Derived.Test.YtidbhdlhcmjhkaaHeldS
import Derived.Test.YtidbhdlhcmjhkaaLawAt
import Derived.Test.YtidbhdlhcmjhkaaDrawDv
import Derived.Test.YtidbhdlhcmjhkaaDevFa
import Derived.Test.YtidbhdlhcmjhkaaDevFl
import Derived.Test.YtidbhdlhcmjhkaaDevMr
import Derived.Test.YtidbhdlhcmjhkaaDevQ
import Derived.Test.YtidbhdlhcmjhkaaSmallA
namespace Go.Proofs.Ytidbhdlhcmjhkaa.fnDevs
open Go.ChangeShapes Go.WideShapes Go.ChangeAt Go.RowKit
set_option linter.unusedVariables false

theorem own : ownKnob Try.prog.godebug = none := by kernel_rfl
theorem laidOut : laidOutB Try.prog = true := by kernel_rfl

set_option maxRecDepth 4000 in
set_option maxHeartbeats 20000000 in
theorem walk (x0 : Option Addr) (len0 cap0 : Nat) (p0 : List UInt8) (w : World) (h0 : RdB w [.slice x0 len0 cap0] p0) :
    Calls Try.prog 3 #[.slice x0 len0 cap0] w fun e w' => e = .returned (.bool true) ∧ Below w.heap.size w w' := by
  have HC_w : Hd (RdB w [.slice x0 len0 cap0] p0) := ⟨h0⟩
  have BW_w : Hd (Below w.heap.size w w) := ⟨Below.refl _ w⟩
  clear h0
  go_enter Try.func3, Try.ntmps3
  go_wp2_with fail
  refine (big_any x0 len0 cap0 _).mono ?_
  rintro e w9 ⟨rfl, hw9⟩
  replace hw9 := hw9.symm
  subst hw9
  by_cases hbig : (1048576 : Int) < (len0 : Int)
  · rw [decide_eq_true hbig]
    go_wp2_with fail
    go_ret
    exact ⟨rfl, Below.refl _ w⟩
  rw [decide_eq_false hbig]
  have HL : Hd (len0 ≤ 1048576) := ⟨by omega⟩
  go_wp2_with fail
  refine (drawDev_any x0 len0 cap0 p0 _ (by omega) (rdB_parts HC_w.out).2).mono ?_
  rintro e w1 ⟨d, csr, rfl, hfr, hc7, hs7, hR, hB⟩
  have HD : Hd (Fresh d ∧ d.cache.length ≤ 7 ∧ (2 ≤ d.secs.length ∧ d.secs.length ≤ 7)) := ⟨hfr, hc7, hs7⟩
  clear hfr hc7 hs7
  have HC_w1 : Hd (RdB w1 [.slice x0 len0 cap0] p0) := ⟨rdB_ok.below HC_w.out hB⟩
  clear HC_w
  have BW_w1 : Hd (Below w.heap.size w w1) := ⟨Below.next BW_w.out hB⟩
  clear BW_w hB
  obtain ⟨Ax0, Am0, Ae0, Ax1, Am1, Ae1, rfl, _⟩ := id hR
  obtain ⟨bA, hbA⟩ : ∃ b, w1.heap.size = b := ⟨_, rfl⟩
  obtain ⟨w1b, hW9⟩ : ∃ W, w1.alloc (.cells #[.slice Ax0 Am0 Ae0, .slice Ax1 Am1 Ae1, .int .i64 d.fuse, .bool d.down] 27) = W := ⟨_, rfl⟩
  have hBx : Below w1.heap.size w1 w1b := by rw [← hW9]; exact below_lit _ _
  have A_0 : Hd (BR 27 RdDev bA [.slice Ax0 Am0 Ae0, .slice Ax1 Am1 Ae1, .int .i64 d.fuse, .bool d.down] (d) w1b) := ⟨by rw [← hW9, ← hbA]; exact br_new rdDev_ok hR⟩
  clear hR
  have HC_w1b : Hd (RdB w1b [.slice x0 len0 cap0] p0) := ⟨rdB_ok.below HC_w1.out hBx⟩
  clear HC_w1
  have BW_w1b : Hd (Below w.heap.size w w1b) := ⟨Below.next BW_w1.out hBx⟩
  clear BW_w1 hBx
  have hAm : Am0 = d.secs.length := by obtain ⟨_, _, _, _, _, _, e, r, _⟩ := A_0.out.lo; simp only [List.cons.injEq, Value.slice.injEq, and_true] at e; obtain ⟨⟨rfl, rfl, rfl⟩, _⟩ := e; exact (owS_len2 r).symm
  have HM : Hd (d.secs.length = Am0 ∧ 2 ≤ Am0 ∧ Am0 ≤ 7) := ⟨by have := HD.out.2.2; omega⟩
  clear hAm
  go_wp2_with fail
  clear hW9 hbA
  have hm0 : ¬ Am0 = 0 := by have := HM.out; omega
  have KK0 : Hd (∀ w', Below w1b.heap.size w1b w' → (w'.cell? ⟨bA, 0, none⟩ = some (.slice Ax0 Am0 Ae0))) := ⟨fun w' hb => cell_below (cellsA A_0.out.box 0 rfl) hb⟩
  refine wp_region_held_drew (S := fun w' => (w'.cell? ⟨bA, 0, none⟩ = some (.slice Ax0 Am0 Ae0))) (by kernel_rfl) (KK0.out _ (Below.refl _ w1b).drew) (fun hHeld => ?_)
  have E0 : Hd (Below w1b.heap.size w1b w1b.drew) := ⟨(Below.refl _ w1b).drew⟩
  refine wpAnyH_take (i := 0) (oi := { dst := some 16, op := Op.move (Operand.tmp 0), type := 22, pos := _, after := #[], guard := none }) (v := ?_) rfl (by kernel_rfl) (by kernel_rfl) (by kernel_rfl) (fun _ _ _ h => h) (Or.inl ⟨by rfl, ?_⟩) (by assumption) ?_
  rotate_left
  · intro w9 hSw
    try dsimp only at hSw
    go_simp
    try with_reducible rfl
  simp only [Act.put, List.setIfInBounds_toArray, List.set_cons_zero, List.set_cons_succ]
  refine wpAnyH_take (i := 2) (oi := { dst := some 18, op := Op.fieldAddr 27 (Operand.tmp 3) 0, type := 0, pos := _, after := #[], guard := none }) (v := ?_) rfl (by kernel_rfl) (by kernel_rfl) (by kernel_rfl) (fun _ _ _ h => h) (Or.inl ⟨by rfl, ?_⟩) (by assumption) ?_
  rotate_left
  · intro w9 hSw
    try dsimp only at hSw
    go_simp
    try with_reducible rfl
  simp only [Act.put, List.setIfInBounds_toArray, List.set_cons_zero, List.set_cons_succ]
  refine wpAnyH_take (i := 3) (oi := { dst := some 19, op := Op.load 24 (Operand.tmp 18), type := 24, pos := _, after := #[{ on := 2, ground := Ground.data }], guard := none }) (v := ?_) rfl (by kernel_rfl) (by kernel_rfl) (by kernel_rfl) (fun _ _ _ h => h) (Or.inl ⟨by rfl, ?_⟩) (by assumption) ?_
  rotate_left
  · intro w9 hSw
    try dsimp only at hSw
    go_simp
    try with_reducible rfl
  simp only [Act.put, List.setIfInBounds_toArray, List.set_cons_zero, List.set_cons_succ]
  refine wpAnyH_take (i := 4) (oi := { dst := some 20, op := Op.call { callee := Callee.builtin Builtin.len, args := #[Operand.tmp 19], argTypes := #[24] }, type := 3, pos := _, after := #[{ on := 3, ground := Ground.data }], guard := none }) (v := ?_) rfl (by kernel_rfl) (by kernel_rfl) (by kernel_rfl) (fun _ _ _ h => h) (Or.inl ⟨by rfl, ?_⟩) (by assumption) ?_
  rotate_left
  · intro w9 hSw
    try dsimp only at hSw
    go_simp
    try with_reducible rfl
  simp only [Act.put, List.setIfInBounds_toArray, List.set_cons_zero, List.set_cons_succ]
  refine wpAnyH_ready (rs := [1]) (by kernel_rfl) (by simp) ?_
  refine AllReadyH.cons rfl (fun K hK => ?_) AllReadyH.nil
  clear hHeld
  rw [if_pos (by rfl)]
  go_wp2_with (go_at_call 7; (refine (at_int x0 len0 cap0 p0 2 _ HL.out (by omega) (rdB_parts (rdB_ok.below HC_w1b.out E0.out)).2).mono ?_; rintro e v1 ⟨a2, ha20, ha21, rfl, hw9⟩; have hb : Below (w1b.drew).heap.size (w1b.drew) v1 := (by rw [hw9] <;> exact Below.refl _ _); clear hw9))
  have E1 : Hd (Below w1b.heap.size w1b v1) := ⟨Below.next E0.out hb⟩
  have hS9 := KK0.out _ (E1.out)
  have hbx := hb
  clear hb
  have KK1 : Hd (∀ w', Below v1.heap.size v1 w' → ((w'.cell? ⟨bA, 0, none⟩ = some (.slice Ax0 Am0 Ae0)))) := ⟨fun w' hb => KK0.out w' (Below.next E1.out hb)⟩
  refine hK.out _ _ hS9 (fun _ => ?_)
  clear hK K hS9
  have hHeld := KK1.out _ (Below.refl _ v1)
  refine wpAnyH_more (S' := fun w' => ((w'.cell? ⟨bA, 0, none⟩ = some (.slice Ax0 Am0 Ae0)))) (fun w' h => h) _ _ _ _ ?_
  clear hbx KK0
  refine wpAnyH_take (i := 5) (oi := { dst := some 21, op := Op.binOp BinOp.rem 3 (Operand.tmp 17) (Operand.tmp 20) 3, type := 3, pos := _, after := #[{ on := 1, ground := Ground.data }, { on := 4, ground := Ground.data }], guard := none }) (v := ?_) rfl (by kernel_rfl) (by kernel_rfl) (by kernel_rfl) (fun _ _ _ h => h) (Or.inl ⟨by rfl, ?_⟩) (by assumption) ?_
  rotate_left
  · intro w9 hSw
    try dsimp only at hSw
    go_simp
    try with_reducible rfl
  simp only [Act.put, List.setIfInBounds_toArray, List.set_cons_zero, List.set_cons_succ]
  refine wpAnyH_take (i := 6) (oi := { dst := some 4, op := Op.assign (Operand.tmp 21), type := 3, pos := _, after := #[{ on := 5, ground := Ground.data }, { on := 1, ground := Ground.chain }, { on := 0, ground := Ground.phase }, { on := 1, ground := Ground.phase }, { on := 2, ground := Ground.phase }, { on := 3, ground := Ground.phase }, { on := 4, ground := Ground.phase }, { on := 5, ground := Ground.phase }], guard := none }) (v := ?_) rfl (by kernel_rfl) (by kernel_rfl) (by kernel_rfl) (fun _ _ _ h => h) (Or.inl ⟨by rfl, ?_⟩) (by assumption) ?_
  rotate_left
  · intro w9 hSw
    try dsimp only at hSw
    go_simp
    try with_reducible rfl
  simp only [Act.put, List.setIfInBounds_toArray, List.set_cons_zero, List.set_cons_succ]
  refine wpAnyH_done (by kernel_rfl) ?_ _
  clear hHeld KK1
  have hB : Below w1b.heap.size w1b v1 := E1.out
  clear E0 E1
  have A_1 : Hd (BR 27 RdDev bA [.slice Ax0 Am0 Ae0, .slice Ax1 Am1 Ae1, .int .i64 d.fuse, .bool d.down] (d) v1) := ⟨A_0.out.below rdDev_ok hB⟩
  clear A_0
  have HC_v1 : Hd (RdB v1 [.slice x0 len0 cap0] p0) := ⟨rdB_ok.below HC_w1b.out hB⟩
  clear HC_w1b
  have BW_v1 : Hd (Below w.heap.size w v1) := ⟨Below.next BW_w1b.out hB⟩
  clear BW_w1b hB
  have hnn : 0 ≤ a2.tmod (Am0 : Int) ∧ a2.tmod (Am0 : Int) < (Am0 : Int) := ⟨Int.tmod_nonneg _ ha20, Int.tmod_lt_of_pos _ (by have := HM.out; omega)⟩
  generalize a2.tmod (Am0 : Int) = n at *
  have HNN : Hd (0 ≤ n ∧ n < (Am0 : Int)) := ⟨hnn⟩
  clear hnn hm0 ha20 ha21
  go_wp2_with fail
  refine (at_int x0 len0 cap0 p0 3 _ HL.out (by omega) (rdB_parts HC_v1.out).2).mono ?_
  rintro e w9 ⟨a3, ha0, ha1, rfl, hw9⟩
  replace hw9 := hw9.symm
  subst hw9
  obtain ⟨y3, hy3⟩ : ∃ y : UInt8, a3 = (y.toNat : Int) := ⟨UInt8.ofNat a3.toNat, by rw [UInt8.toNat_ofNat']; omega⟩
  subst hy3
  clear ha0 ha1
  have hu3 : IntKind.u8.wrap (y3.toNat : Int) = (y3.toNat : Int) := u8_wrap _
  go_wp2_with fail
  refine (at_int x0 len0 cap0 p0 4 _ HL.out (by omega) (rdB_parts HC_v1.out).2).mono ?_
  rintro e w9 ⟨a4, ha0, ha1, rfl, hw9⟩
  replace hw9 := hw9.symm
  subst hw9
  obtain ⟨y4, hy4⟩ : ∃ y : UInt8, a4 = (y.toNat : Int) := ⟨UInt8.ofNat a4.toNat, by rw [UInt8.toNat_ofNat']; omega⟩
  subst hy4
  clear ha0 ha1
  have hu4 : IntKind.u8.wrap (y4.toNat : Int) = (y4.toNat : Int) := u8_wrap _
  obtain ⟨gb, hgb⟩ : ∃ b, v1.heap.size = b := ⟨_, rfl⟩
  obtain ⟨v2, hW9⟩ : ∃ W, v1.alloc (.cells #[.int .u8 (y3.toNat : Int), .int .u8 (y4.toNat : Int)] 5) = W := ⟨_, rfl⟩
  have hB : Below v1.heap.size v1 v2 := by rw [← hW9]; exact below_lit _ _
  have hRb : RdB v2 [.slice (some ⟨gb, 0, none⟩) 2 2] [y3, y4] := by rw [← hW9, ← hgb]; exact two_bytes v1 y3 y4
  have A_2 : Hd (BR 27 RdDev bA [.slice Ax0 Am0 Ae0, .slice Ax1 Am1 Ae1, .int .i64 d.fuse, .bool d.down] (d) v2) := ⟨A_1.out.below rdDev_ok hB⟩
  clear A_1
  have HC_v2 : Hd (RdB v2 [.slice x0 len0 cap0] p0) := ⟨rdB_ok.below HC_v1.out hB⟩
  clear HC_v1
  have BW_v2 : Hd (Below w.heap.size w v2) := ⟨Below.next BW_v1.out hB⟩
  clear BW_v1 hB
  have HY_v2 : Hd (RdB v2 [.slice (some ⟨gb, 0, none⟩) 2 2] [y3, y4]) := ⟨hRb⟩
  clear hRb
  have cA0 := cellsA A_2.out.box 0 rfl
  have cA1 := cellsA A_2.out.box 1 rfl
  have cA2 := cellsA A_2.out.box 2 rfl
  have cA3 := cellsA A_2.out.box 3 rfl
  go_wp2_with fail
  clear cA0 cA1 cA2 cA3
  clear hW9 hgb hu3 hu4
  refine (implWriteSec_wt _ d n _ 2 2 [y3, y4] _ A_2.out.lo HY_v2.out (Nat.le_trans (dev_wt HD.out.1.ok) (by omega)) (by simp)).mono ?_
  rintro e w3 ⟨⟨csr, rfl, G9, hE, _⟩, hB⟩
  obtain ⟨dx, hdx⟩ : ∃ z, writeD d n [y3, y4] = z := ⟨_, rfl⟩
  have HX : Hd (writeD d n [y3, y4] = dx) := ⟨hdx⟩
  rw [hdx] at hE
  have hR : RdDev w3 csr dx := owDev_ok.rd hE
  clear hE hdx
  have HXo : Hd (devOk dx = true) := ⟨by rw [← HX.out]; exact write_ok HD.out.1.ok⟩
  have A_3 : Hd (BR 27 RdDev bA [.slice Ax0 Am0 Ae0, .slice Ax1 Am1 Ae1, .int .i64 d.fuse, .bool d.down] (d) w3) := ⟨A_2.out.below rdDev_ok hB⟩
  clear A_2
  have HC_w3 : Hd (RdB w3 [.slice x0 len0 cap0] p0) := ⟨rdB_ok.below HC_v2.out hB⟩
  clear HC_v2
  have HY_w3 : Hd (RdB w3 [.slice (some ⟨gb, 0, none⟩) 2 2] [y3, y4]) := ⟨rdB_ok.below HY_v2.out hB⟩
  clear HY_v2
  have BW_w3 : Hd (Below w.heap.size w w3) := ⟨Below.next BW_v2.out hB⟩
  clear BW_v2 hB
  obtain ⟨Xx0, Xm0, Xe0, Xx1, Xm1, Xe1, rfl, _⟩ := id hR
  obtain ⟨bX, hbX⟩ : ∃ b, w3.heap.size = b := ⟨_, rfl⟩
  obtain ⟨w3b, hW9⟩ : ∃ W, w3.alloc (.cells #[.slice Xx0 Xm0 Xe0, .slice Xx1 Xm1 Xe1, .int .i64 dx.fuse, .bool dx.down] 27) = W := ⟨_, rfl⟩
  have hBx : Below w3.heap.size w3 w3b := by rw [← hW9]; exact below_lit _ _
  have X_0 : Hd (BR 27 RdDev bX [.slice Xx0 Xm0 Xe0, .slice Xx1 Xm1 Xe1, .int .i64 dx.fuse, .bool dx.down] (dx) w3b) := ⟨by rw [← hW9, ← hbX]; exact br_new rdDev_ok hR⟩
  clear hR
  have A_4 : Hd (BR 27 RdDev bA [.slice Ax0 Am0 Ae0, .slice Ax1 Am1 Ae1, .int .i64 d.fuse, .bool d.down] (d) w3b) := ⟨A_3.out.below rdDev_ok hBx⟩
  clear A_3
  have HC_w3b : Hd (RdB w3b [.slice x0 len0 cap0] p0) := ⟨rdB_ok.below HC_w3.out hBx⟩
  clear HC_w3
  have HY_w3b : Hd (RdB w3b [.slice (some ⟨gb, 0, none⟩) 2 2] [y3, y4]) := ⟨rdB_ok.below HY_w3.out hBx⟩
  clear HY_w3
  have BW_w3b : Hd (Below w.heap.size w w3b) := ⟨Below.next BW_w3.out hBx⟩
  clear BW_w3 hBx
  have cX0 := cellsA X_0.out.box 0 rfl
  have cX1 := cellsA X_0.out.box 1 rfl
  have cX2 := cellsA X_0.out.box 2 rfl
  have cX3 := cellsA X_0.out.box 3 rfl
  go_wp2_with fail
  clear hW9 hbX
  clear cX0 cX1 cX2 cX3
  refine (implFlushDev_rd _ dx _ X_0.out.lo (Nat.le_trans (dev_wt HXo.out) (by omega))).mono ?_
  rintro e w4 ⟨⟨csr, rfl, G9, hE, _⟩, hB⟩
  obtain ⟨df, hdf⟩ : ∃ z, flushD dx = z := ⟨_, rfl⟩
  have HF : Hd (flushD dx = df) := ⟨hdf⟩
  rw [hdf] at hE
  have hR : RdDev w4 csr df := owDev_ok.rd hE
  clear hE hdf
  have HFo : Hd (devOk df = true) := ⟨by rw [← HF.out]; exact flush_ok HXo.out⟩
  have A_5 : Hd (BR 27 RdDev bA [.slice Ax0 Am0 Ae0, .slice Ax1 Am1 Ae1, .int .i64 d.fuse, .bool d.down] (d) w4) := ⟨A_4.out.below rdDev_ok hB⟩
  clear A_4
  have X_1 : Hd (BR 27 RdDev bX [.slice Xx0 Xm0 Xe0, .slice Xx1 Xm1 Xe1, .int .i64 dx.fuse, .bool dx.down] (dx) w4) := ⟨X_0.out.below rdDev_ok hB⟩
  clear X_0
  have HC_w4 : Hd (RdB w4 [.slice x0 len0 cap0] p0) := ⟨rdB_ok.below HC_w3b.out hB⟩
  clear HC_w3b
  have HY_w4 : Hd (RdB w4 [.slice (some ⟨gb, 0, none⟩) 2 2] [y3, y4]) := ⟨rdB_ok.below HY_w3b.out hB⟩
  clear HY_w3b
  have BW_w4 : Hd (Below w.heap.size w w4) := ⟨Below.next BW_w3b.out hB⟩
  clear BW_w3b hB
  obtain ⟨Fx0, Fm0, Fe0, Fx1, Fm1, Fe1, rfl, _⟩ := id hR
  obtain ⟨bF, hbF⟩ : ∃ b, w4.heap.size = b := ⟨_, rfl⟩
  obtain ⟨w4b, hW9⟩ : ∃ W, w4.alloc (.cells #[.slice Fx0 Fm0 Fe0, .slice Fx1 Fm1 Fe1, .int .i64 df.fuse, .bool df.down] 27) = W := ⟨_, rfl⟩
  have hBx : Below w4.heap.size w4 w4b := by rw [← hW9]; exact below_lit _ _
  have F_0 : Hd (BR 27 RdDev bF [.slice Fx0 Fm0 Fe0, .slice Fx1 Fm1 Fe1, .int .i64 df.fuse, .bool df.down] (df) w4b) := ⟨by rw [← hW9, ← hbF]; exact br_new rdDev_ok hR⟩
  clear hR
  have A_6 : Hd (BR 27 RdDev bA [.slice Ax0 Am0 Ae0, .slice Ax1 Am1 Ae1, .int .i64 d.fuse, .bool d.down] (d) w4b) := ⟨A_5.out.below rdDev_ok hBx⟩
  clear A_5
  have X_2 : Hd (BR 27 RdDev bX [.slice Xx0 Xm0 Xe0, .slice Xx1 Xm1 Xe1, .int .i64 dx.fuse, .bool dx.down] (dx) w4b) := ⟨X_1.out.below rdDev_ok hBx⟩
  clear X_1
  have HC_w4b : Hd (RdB w4b [.slice x0 len0 cap0] p0) := ⟨rdB_ok.below HC_w4.out hBx⟩
  clear HC_w4
  have HY_w4b : Hd (RdB w4b [.slice (some ⟨gb, 0, none⟩) 2 2] [y3, y4]) := ⟨rdB_ok.below HY_w4.out hBx⟩
  clear HY_w4
  have BW_w4b : Hd (Below w.heap.size w w4b) := ⟨Below.next BW_w4.out hBx⟩
  clear BW_w4 hBx
  go_wp2_with fail
  clear hW9 hbF
  go_cut [8] (fun z wr => ∃ (bZ : Nat) (dz : DevD) (Zx0 : Option Addr) (Zm0 Ze0 : Nat) (Zx1 : Option Addr) (Zm1 Ze1 : Nat), z = .pointer (some ⟨bZ, 0, none⟩) ∧ Hd (Below w4b.heap.size w4b wr ∧ (∃ k, dz = fallD dx k) ∧ BR 27 RdDev bZ [.slice Zx0 Zm0 Ze0, .slice Zx1 Zm1 Ze1, .int .i64 dz.fuse, .bool dz.down] dz wr))
  case first =>
    have KK : Hd (∀ w' : World, w'.heap[bX]? = some (.cells #[.slice Xx0 Xm0 Xe0, .slice Xx1 Xm1 Xe1, .int .i64 dx.fuse, .bool dx.down] 27 (0, 0)) → (w'.cell? ⟨bX, 0, none⟩ = some (.slice Xx0 Xm0 Xe0) ∧ w'.cell? ⟨bX, 1, none⟩ = some (.slice Xx1 Xm1 Xe1) ∧ w'.cell? ⟨bX, 2, none⟩ = some (.int .i64 dx.fuse) ∧ w'.cell? ⟨bX, 3, none⟩ = some (.bool dx.down))) := ⟨fun w' hb => ⟨cellsA hb 0 rfl, cellsA hb 1 rfl, cellsA hb 2 rfl, cellsA hb 3 rfl⟩⟩
    have hXb : Hd (w4b.drew.heap[bX]? = some (.cells #[.slice Xx0 Xm0 Xe0, .slice Xx1 Xm1 Xe1, .int .i64 dx.fuse, .bool dx.down] 27 (0, 0))) := ⟨X_2.out.box⟩
    refine wp_region_held_drew (S := fun w' => (w'.cell? ⟨bX, 0, none⟩ = some (.slice Xx0 Xm0 Xe0) ∧ w'.cell? ⟨bX, 1, none⟩ = some (.slice Xx1 Xm1 Xe1) ∧ w'.cell? ⟨bX, 2, none⟩ = some (.int .i64 dx.fuse) ∧ w'.cell? ⟨bX, 3, none⟩ = some (.bool dx.down))) (by kernel_rfl) (KK.out _ hXb.out) (fun hHeld => ?_)
    have E0 : Hd (Below w4b.heap.size w4b w4b.drew) := ⟨(Below.refl _ w4b).drew⟩
    refine wpAnyH_take (i := 0) (oi := { dst := some 35, op := Op.load 27 (Operand.tmp 6), type := 27, pos := _, after := #[], guard := none }) (v := ?_) rfl (by kernel_rfl) (by kernel_rfl) (by kernel_rfl) (fun _ _ _ h => h) (Or.inl ⟨by rfl, ?_⟩) (by assumption) ?_
    rotate_left
    · intro w9 hSw
      try dsimp only at hSw
      go_simp
      try with_reducible rfl
    simp only [Act.put, List.setIfInBounds_toArray, List.set_cons_zero, List.set_cons_succ]
    refine wpAnyH_take (i := 1) (oi := { dst := some 36, op := Op.move (Operand.tmp 0), type := 22, pos := _, after := #[], guard := none }) (v := ?_) rfl (by kernel_rfl) (by kernel_rfl) (by kernel_rfl) (fun _ _ _ h => h) (Or.inl ⟨by rfl, ?_⟩) (by assumption) ?_
    rotate_left
    · intro w9 hSw
      try dsimp only at hSw
      go_simp
      try with_reducible rfl
    simp only [Act.put, List.setIfInBounds_toArray, List.set_cons_zero, List.set_cons_succ]
    refine wpAnyH_take (i := 4) (oi := { dst := some 39, op := Op.move (Operand.tmp 0), type := 22, pos := _, after := #[], guard := none }) (v := ?_) rfl (by kernel_rfl) (by kernel_rfl) (by kernel_rfl) (fun _ _ _ h => h) (Or.inl ⟨by rfl, ?_⟩) (by assumption) ?_
    rotate_left
    · intro w9 hSw
      try dsimp only at hSw
      go_simp
      try with_reducible rfl
    simp only [Act.put, List.setIfInBounds_toArray, List.set_cons_zero, List.set_cons_succ]
    refine wpAnyH_ready (rs := [2, 8]) (by kernel_rfl) (by simp) ?_
    refine AllReadyH.cons rfl (fun K hK => ?_) ?_
    · clear hHeld
      rw [if_pos (by rfl)]
      go_wp2_with (go_at_call 7; (refine (at_int x0 len0 cap0 p0 5 _ HL.out (by omega) (rdB_parts (rdB_ok.below HC_w4b.out E0.out)).2).mono ?_; rintro e v11 ⟨a5, _, _, rfl, hw9⟩; have hb : Below (w4b.drew).heap.size (w4b.drew) v11 := (by rw [hw9] <;> exact Below.refl _ _); clear hw9))
      have E1 : Hd (Below w4b.heap.size w4b v11) := ⟨Below.next E0.out hb⟩
      have hXb : Hd (v11.heap[bX]? = some (.cells #[.slice Xx0 Xm0 Xe0, .slice Xx1 Xm1 Xe1, .int .i64 dx.fuse, .bool dx.down] 27 (0, 0))) := ⟨(hb.block _ (lt_of_block hXb.out)).trans hXb.out⟩
      refine hK.out _ _ (KK.out _ hXb.out) (fun hHeld => ?_)
      clear hK K hb
      refine wpAnyH_take (i := 3) (oi := { dst := some 38, op := Op.binOp BinOp.mul 3 (Operand.tmp 37) (Operand.const (Value.int IntKind.i64 256)) 3, type := 3, pos := _, after := #[{ on := 2, ground := Ground.data }], guard := none }) (v := ?_) rfl (by kernel_rfl) (by kernel_rfl) (by kernel_rfl) (fun _ _ _ h => h) (Or.inl ⟨by rfl, ?_⟩) (by assumption) ?_
      rotate_left
      · intro w9 hSw
        try dsimp only at hSw
        go_simp
        try with_reducible rfl
      simp only [Act.put, List.setIfInBounds_toArray, List.set_cons_zero, List.set_cons_succ]
      refine wpAnyH_ready (rs := [5, 8]) (by kernel_rfl) (by simp) ?_
      refine AllReadyH.cons rfl (fun K hK => ?_) ?_
      · clear hHeld
        rw [if_pos (by rfl)]
        go_wp2_with (go_at_call 7; (refine (at_int x0 len0 cap0 p0 6 _ HL.out (by omega) (rdB_parts (rdB_ok.below HC_w4b.out E1.out)).2).mono ?_; rintro e v12 ⟨a6, _, _, rfl, hw9⟩; have hb : Below (v11).heap.size (v11) v12 := (by rw [hw9] <;> exact Below.refl _ _); clear hw9))
        have E2 : Hd (Below w4b.heap.size w4b v12) := ⟨Below.next E1.out hb⟩
        have hXb : Hd (v12.heap[bX]? = some (.cells #[.slice Xx0 Xm0 Xe0, .slice Xx1 Xm1 Xe1, .int .i64 dx.fuse, .bool dx.down] 27 (0, 0))) := ⟨(hb.block _ (lt_of_block hXb.out)).trans hXb.out⟩
        refine hK.out _ _ (KK.out _ hXb.out) (fun hHeld => ?_)
        clear hK K hb
        refine wpAnyH_take (i := 6) (oi := { dst := some 41, op := Op.binOp BinOp.add 3 (Operand.tmp 38) (Operand.tmp 40) 3, type := 3, pos := _, after := #[{ on := 3, ground := Ground.data }, { on := 5, ground := Ground.data }], guard := none }) (v := ?_) rfl (by kernel_rfl) (by kernel_rfl) (by kernel_rfl) (fun _ _ _ h => h) (Or.inl ⟨by rfl, ?_⟩) (by assumption) ?_
        rotate_left
        · intro w9 hSw
          try dsimp only at hSw
          go_simp
          try with_reducible rfl
        simp only [Act.put, List.setIfInBounds_toArray, List.set_cons_zero, List.set_cons_succ]
        refine wpAnyH_ready (rs := [7, 8]) (by kernel_rfl) (by simp) ?_
        refine AllReadyH.cons rfl (fun K hK => ?_) ?_
        · clear hHeld
          rw [if_pos (by rfl)]
          go_wp2_with (go_at_call 10; (refine (implFallDev_rd _ dx _ _ (X_2.out.below rdDev_ok E2.out).lo (Nat.le_trans (dev_wt HXo.out) (by omega))).mono ?_; rintro e v13 ⟨⟨csz, rfl, GZ, hEz, hFz⟩, hb⟩))
          generalize hdz : fallD dx _ = dz at hEz
          have HDz : Hd (∃ k, dz = fallD dx k) := ⟨_, hdz.symm⟩
          clear hdz
          obtain ⟨Zx0, Zm0, Ze0, Zx1, Zm1, Ze1, G0, G1, rfl, _⟩ := id hEz
          have OZ : Hd (OwDev v13 [.slice Zx0 Zm0 Ze0, .slice Zx1 Zm1 Ze1, .int .i64 dz.fuse, .bool dz.down] GZ dz ∧ ∀ x, GZ x → (v12).heap.size ≤ x) := ⟨hEz, hFz⟩
          clear hEz hFz
          have E3 : Hd (Below w4b.heap.size w4b v13) := ⟨Below.next E2.out hb⟩
          have hXb : Hd (v13.heap[bX]? = some (.cells #[.slice Xx0 Xm0 Xe0, .slice Xx1 Xm1 Xe1, .int .i64 dx.fuse, .bool dx.down] 27 (0, 0))) := ⟨(hb.block _ (lt_of_block hXb.out)).trans hXb.out⟩
          have OZ_3 := OZ
          refine hK.out _ _ (KK.out _ hXb.out) (fun hHeld => ?_)
          clear hK K hb
          refine wpAnyH_ready (rs := [8]) (by kernel_rfl) (by simp) ?_
          refine AllReadyH.cons rfl (fun K hK => ?_) AllReadyH.nil
          clear hHeld
          go_simp
          obtain ⟨v14, hW9⟩ : ∃ W, (v13).alloc (.cells #[.slice none 0 0, .slice none 0 0, .int .i64 0, .bool false] 27) = W := ⟨_, rfl⟩
          obtain ⟨bZ, hbZ⟩ : ∃ b, (v13).heap.size = b := ⟨_, rfl⟩
          rewrite [hW9]
          rewrite [hbZ]
          have hb : Below (v13).heap.size (v13) v14 := by rw [← hW9]; exact below_lit _ _
          have KZ_4 : Hd (v14.heap[bZ]? = some (.cells #[.slice none 0 0, .slice none 0 0, .int .i64 0, .bool false] 27 (0, 0)) ∧ bX < bZ ∧ w4b.heap.size ≤ bZ) := ⟨by rw [← hW9, ← hbZ]; exact heap_alloc_new _ _, by rw [← hbZ]; exact Nat.lt_of_lt_of_le (lt_of_block X_2.out.box) E3.out.size, by rw [← hbZ]; exact E3.out.size⟩
          have hne : ∀ x, GZ x → x ≠ bZ := fun x hx => by have h7 := owDev_ok.lt OZ_3.out.1 x hx; omega
          have E4 : Hd (Below w4b.heap.size w4b v14) := ⟨Below.next E3.out hb⟩
          have hXb : Hd (v14.heap[bX]? = some (.cells #[.slice Xx0 Xm0 Xe0, .slice Xx1 Xm1 Xe1, .int .i64 dx.fuse, .bool dx.down] 27 (0, 0))) := ⟨(hb.block _ (lt_of_block hXb.out)).trans hXb.out⟩
          have OZ_4 : Hd (OwDev v14 [.slice Zx0 Zm0 Ze0, .slice Zx1 Zm1 Ze1, .int .i64 dz.fuse, .bool dz.down] GZ dz ∧ True) := ⟨owDev_ok.below OZ_3.out.1 hb, trivial⟩
          refine hK.out _ _ (KK.out _ hXb.out) (fun hHeld => ?_)
          clear hK K hb hW9 hbZ
          skip
          refine wpAnyH_ready (rs := [9]) (by kernel_rfl) (by simp) ?_
          refine AllReadyH.cons rfl (fun K hK => ?_) AllReadyH.nil
          clear hHeld
          have z0 := cellsA KZ_4.out.1 0 rfl
          have f0 := freeA KZ_4.out.1 0
          have z1 := cellsA KZ_4.out.1 1 rfl
          have f1 := freeA KZ_4.out.1 1
          have z2 := cellsA KZ_4.out.1 2 rfl
          have f2 := freeA KZ_4.out.1 2
          have z3 := cellsA KZ_4.out.1 3 rfl
          have f3 := freeA KZ_4.out.1 3
          go_simp
          clear z0 z1 z2 z3 f0 f1 f2 f3
          have hbb := KZ_4.out.2.1
          refine hK.out _ _ (KK.out _ (block_set (block_set (block_set (block_set hXb.out (by omega)) (by omega)) (by omega)) (by omega))) (fun hHeld => ?_)
          clear hK K
          have hZlo : w4b.heap.size ≤ bZ := KZ_4.out.2.2
          have HZZ : Hd (Below w4b.heap.size w4b ((((v14.setCell ⟨bZ, 0, none⟩ (.slice Zx0 Zm0 Ze0)).setCell ⟨bZ, 1, none⟩ (.slice Zx1 Zm1 Ze1)).setCell ⟨bZ, 2, none⟩ (.int .i64 dz.fuse)).setCell ⟨bZ, 3, none⟩ (.bool dz.down)) ∧ (∃ k, dz = fallD dx k) ∧ BR 27 RdDev bZ [.slice Zx0 Zm0 Ze0, .slice Zx1 Zm1 Ze1, .int .i64 dz.fuse, .bool dz.down] dz ((((v14.setCell ⟨bZ, 0, none⟩ (.slice Zx0 Zm0 Ze0)).setCell ⟨bZ, 1, none⟩ (.slice Zx1 Zm1 Ze1)).setCell ⟨bZ, 2, none⟩ (.int .i64 dz.fuse)).setCell ⟨bZ, 3, none⟩ (.bool dz.down))) := ⟨bset (bset (bset (bset E4.out _ hZlo) _ hZlo) _ hZlo) _ hZlo, HDz.out, ⟨four_at KZ_4.out.1 _ _ _ _, owDev_ok.rd (owDev_ok.keep OZ_4.out.1 (fun b hb => block_set (block_set (block_set (block_set rfl (hne b hb)) (hne b hb)) (hne b hb)) (hne b hb)))⟩⟩
          refine wpAnyH_done (by kernel_rfl) ?_ _
          clear hHeld
          go_wp2_with fail
          go_meet
          exact ⟨bZ, dz, Zx0, Zm0, Ze0, Zx1, Zm1, Ze1, rfl, HZZ⟩
        refine AllReadyH.cons rfl (fun K hK => ?_) ?_
        · clear hHeld
          go_simp
          obtain ⟨v13, hW9⟩ : ∃ W, (v12).alloc (.cells #[.slice none 0 0, .slice none 0 0, .int .i64 0, .bool false] 27) = W := ⟨_, rfl⟩
          obtain ⟨bZ, hbZ⟩ : ∃ b, (v12).heap.size = b := ⟨_, rfl⟩
          rewrite [hW9]
          rewrite [hbZ]
          have hb : Below (v12).heap.size (v12) v13 := by rw [← hW9]; exact below_lit _ _
          have KZ_3 : Hd (v13.heap[bZ]? = some (.cells #[.slice none 0 0, .slice none 0 0, .int .i64 0, .bool false] 27 (0, 0)) ∧ bX < bZ ∧ w4b.heap.size ≤ bZ) := ⟨by rw [← hW9, ← hbZ]; exact heap_alloc_new _ _, by rw [← hbZ]; exact Nat.lt_of_lt_of_le (lt_of_block X_2.out.box) E2.out.size, by rw [← hbZ]; exact E2.out.size⟩
          have E3 : Hd (Below w4b.heap.size w4b v13) := ⟨Below.next E2.out hb⟩
          have hXb : Hd (v13.heap[bX]? = some (.cells #[.slice Xx0 Xm0 Xe0, .slice Xx1 Xm1 Xe1, .int .i64 dx.fuse, .bool dx.down] 27 (0, 0))) := ⟨(hb.block _ (lt_of_block hXb.out)).trans hXb.out⟩
          refine hK.out _ _ (KK.out _ hXb.out) (fun hHeld => ?_)
          clear hK K hb hW9 hbZ
          skip
          refine wpAnyH_ready (rs := [7]) (by kernel_rfl) (by simp) ?_
          refine AllReadyH.cons rfl (fun K hK => ?_) AllReadyH.nil
          clear hHeld
          rw [if_pos (by rfl)]
          go_wp2_with (go_at_call 10; (refine (implFallDev_rd _ dx _ _ (X_2.out.below rdDev_ok E3.out).lo (Nat.le_trans (dev_wt HXo.out) (by omega))).mono ?_; rintro e v14 ⟨⟨csz, rfl, GZ, hEz, hFz⟩, hb⟩))
          generalize hdz : fallD dx _ = dz at hEz
          have HDz : Hd (∃ k, dz = fallD dx k) := ⟨_, hdz.symm⟩
          clear hdz
          obtain ⟨Zx0, Zm0, Ze0, Zx1, Zm1, Ze1, G0, G1, rfl, _⟩ := id hEz
          have OZ : Hd (OwDev v14 [.slice Zx0 Zm0 Ze0, .slice Zx1 Zm1 Ze1, .int .i64 dz.fuse, .bool dz.down] GZ dz ∧ ∀ x, GZ x → (v13).heap.size ≤ x) := ⟨hEz, hFz⟩
          clear hEz hFz
          have E4 : Hd (Below w4b.heap.size w4b v14) := ⟨Below.next E3.out hb⟩
          have hXb : Hd (v14.heap[bX]? = some (.cells #[.slice Xx0 Xm0 Xe0, .slice Xx1 Xm1 Xe1, .int .i64 dx.fuse, .bool dx.down] 27 (0, 0))) := ⟨(hb.block _ (lt_of_block hXb.out)).trans hXb.out⟩
          have KZ_4 : Hd (v14.heap[bZ]? = some (.cells #[.slice none 0 0, .slice none 0 0, .int .i64 0, .bool false] 27 (0, 0)) ∧ bX < bZ ∧ w4b.heap.size ≤ bZ) := ⟨(hb.block _ (lt_of_block KZ_3.out.1)).trans KZ_3.out.1, KZ_3.out.2⟩
          have OZ_4 := OZ
          have hne : ∀ x, GZ x → x ≠ bZ := fun x hx => by have h7 := OZ.out.2 x hx; have h8 := lt_of_block KZ_3.out.1; omega
          refine hK.out _ _ (KK.out _ hXb.out) (fun hHeld => ?_)
          clear hK K hb
          refine wpAnyH_ready (rs := [9]) (by kernel_rfl) (by simp) ?_
          refine AllReadyH.cons rfl (fun K hK => ?_) AllReadyH.nil
          clear hHeld
          have z0 := cellsA KZ_4.out.1 0 rfl
          have f0 := freeA KZ_4.out.1 0
          have z1 := cellsA KZ_4.out.1 1 rfl
          have f1 := freeA KZ_4.out.1 1
          have z2 := cellsA KZ_4.out.1 2 rfl
          have f2 := freeA KZ_4.out.1 2
          have z3 := cellsA KZ_4.out.1 3 rfl
          have f3 := freeA KZ_4.out.1 3
          go_simp
          clear z0 z1 z2 z3 f0 f1 f2 f3
          have hbb := KZ_4.out.2.1
          refine hK.out _ _ (KK.out _ (block_set (block_set (block_set (block_set hXb.out (by omega)) (by omega)) (by omega)) (by omega))) (fun hHeld => ?_)
          clear hK K
          have hZlo : w4b.heap.size ≤ bZ := KZ_4.out.2.2
          have HZZ : Hd (Below w4b.heap.size w4b ((((v14.setCell ⟨bZ, 0, none⟩ (.slice Zx0 Zm0 Ze0)).setCell ⟨bZ, 1, none⟩ (.slice Zx1 Zm1 Ze1)).setCell ⟨bZ, 2, none⟩ (.int .i64 dz.fuse)).setCell ⟨bZ, 3, none⟩ (.bool dz.down)) ∧ (∃ k, dz = fallD dx k) ∧ BR 27 RdDev bZ [.slice Zx0 Zm0 Ze0, .slice Zx1 Zm1 Ze1, .int .i64 dz.fuse, .bool dz.down] dz ((((v14.setCell ⟨bZ, 0, none⟩ (.slice Zx0 Zm0 Ze0)).setCell ⟨bZ, 1, none⟩ (.slice Zx1 Zm1 Ze1)).setCell ⟨bZ, 2, none⟩ (.int .i64 dz.fuse)).setCell ⟨bZ, 3, none⟩ (.bool dz.down))) := ⟨bset (bset (bset (bset E4.out _ hZlo) _ hZlo) _ hZlo) _ hZlo, HDz.out, ⟨four_at KZ_4.out.1 _ _ _ _, owDev_ok.rd (owDev_ok.keep OZ_4.out.1 (fun b hb => block_set (block_set (block_set (block_set rfl (hne b hb)) (hne b hb)) (hne b hb)) (hne b hb)))⟩⟩
          refine wpAnyH_done (by kernel_rfl) ?_ _
          clear hHeld
          go_wp2_with fail
          go_meet
          exact ⟨bZ, dz, Zx0, Zm0, Ze0, Zx1, Zm1, Ze1, rfl, HZZ⟩
        exact AllReadyH.nil
      refine AllReadyH.cons rfl (fun K hK => ?_) ?_
      · clear hHeld
        go_simp
        obtain ⟨v12, hW9⟩ : ∃ W, (v11).alloc (.cells #[.slice none 0 0, .slice none 0 0, .int .i64 0, .bool false] 27) = W := ⟨_, rfl⟩
        obtain ⟨bZ, hbZ⟩ : ∃ b, (v11).heap.size = b := ⟨_, rfl⟩
        rewrite [hW9]
        rewrite [hbZ]
        have hb : Below (v11).heap.size (v11) v12 := by rw [← hW9]; exact below_lit _ _
        have KZ_2 : Hd (v12.heap[bZ]? = some (.cells #[.slice none 0 0, .slice none 0 0, .int .i64 0, .bool false] 27 (0, 0)) ∧ bX < bZ ∧ w4b.heap.size ≤ bZ) := ⟨by rw [← hW9, ← hbZ]; exact heap_alloc_new _ _, by rw [← hbZ]; exact Nat.lt_of_lt_of_le (lt_of_block X_2.out.box) E1.out.size, by rw [← hbZ]; exact E1.out.size⟩
        have E2 : Hd (Below w4b.heap.size w4b v12) := ⟨Below.next E1.out hb⟩
        have hXb : Hd (v12.heap[bX]? = some (.cells #[.slice Xx0 Xm0 Xe0, .slice Xx1 Xm1 Xe1, .int .i64 dx.fuse, .bool dx.down] 27 (0, 0))) := ⟨(hb.block _ (lt_of_block hXb.out)).trans hXb.out⟩
        refine hK.out _ _ (KK.out _ hXb.out) (fun hHeld => ?_)
        clear hK K hb hW9 hbZ
        skip
        refine wpAnyH_ready (rs := [5]) (by kernel_rfl) (by simp) ?_
        refine AllReadyH.cons rfl (fun K hK => ?_) AllReadyH.nil
        clear hHeld
        rw [if_pos (by rfl)]
        go_wp2_with (go_at_call 7; (refine (at_int x0 len0 cap0 p0 6 _ HL.out (by omega) (rdB_parts (rdB_ok.below HC_w4b.out E2.out)).2).mono ?_; rintro e v13 ⟨a6, _, _, rfl, hw9⟩; have hb : Below (v12).heap.size (v12) v13 := (by rw [hw9] <;> exact Below.refl _ _); clear hw9))
        have E3 : Hd (Below w4b.heap.size w4b v13) := ⟨Below.next E2.out hb⟩
        have hXb : Hd (v13.heap[bX]? = some (.cells #[.slice Xx0 Xm0 Xe0, .slice Xx1 Xm1 Xe1, .int .i64 dx.fuse, .bool dx.down] 27 (0, 0))) := ⟨(hb.block _ (lt_of_block hXb.out)).trans hXb.out⟩
        have KZ_3 : Hd (v13.heap[bZ]? = some (.cells #[.slice none 0 0, .slice none 0 0, .int .i64 0, .bool false] 27 (0, 0)) ∧ bX < bZ ∧ w4b.heap.size ≤ bZ) := ⟨(hb.block _ (lt_of_block KZ_2.out.1)).trans KZ_2.out.1, KZ_2.out.2⟩
        refine hK.out _ _ (KK.out _ hXb.out) (fun hHeld => ?_)
        clear hK K hb
        refine wpAnyH_take (i := 6) (oi := { dst := some 41, op := Op.binOp BinOp.add 3 (Operand.tmp 38) (Operand.tmp 40) 3, type := 3, pos := _, after := #[{ on := 3, ground := Ground.data }, { on := 5, ground := Ground.data }], guard := none }) (v := ?_) rfl (by kernel_rfl) (by kernel_rfl) (by kernel_rfl) (fun _ _ _ h => h) (Or.inl ⟨by rfl, ?_⟩) (by assumption) ?_
        rotate_left
        · intro w9 hSw
          try dsimp only at hSw
          go_simp
          try with_reducible rfl
        simp only [Act.put, List.setIfInBounds_toArray, List.set_cons_zero, List.set_cons_succ]
        refine wpAnyH_ready (rs := [7]) (by kernel_rfl) (by simp) ?_
        refine AllReadyH.cons rfl (fun K hK => ?_) AllReadyH.nil
        clear hHeld
        rw [if_pos (by rfl)]
        go_wp2_with (go_at_call 10; (refine (implFallDev_rd _ dx _ _ (X_2.out.below rdDev_ok E3.out).lo (Nat.le_trans (dev_wt HXo.out) (by omega))).mono ?_; rintro e v14 ⟨⟨csz, rfl, GZ, hEz, hFz⟩, hb⟩))
        generalize hdz : fallD dx _ = dz at hEz
        have HDz : Hd (∃ k, dz = fallD dx k) := ⟨_, hdz.symm⟩
        clear hdz
        obtain ⟨Zx0, Zm0, Ze0, Zx1, Zm1, Ze1, G0, G1, rfl, _⟩ := id hEz
        have OZ : Hd (OwDev v14 [.slice Zx0 Zm0 Ze0, .slice Zx1 Zm1 Ze1, .int .i64 dz.fuse, .bool dz.down] GZ dz ∧ ∀ x, GZ x → (v13).heap.size ≤ x) := ⟨hEz, hFz⟩
        clear hEz hFz
        have E4 : Hd (Below w4b.heap.size w4b v14) := ⟨Below.next E3.out hb⟩
        have hXb : Hd (v14.heap[bX]? = some (.cells #[.slice Xx0 Xm0 Xe0, .slice Xx1 Xm1 Xe1, .int .i64 dx.fuse, .bool dx.down] 27 (0, 0))) := ⟨(hb.block _ (lt_of_block hXb.out)).trans hXb.out⟩
        have KZ_4 : Hd (v14.heap[bZ]? = some (.cells #[.slice none 0 0, .slice none 0 0, .int .i64 0, .bool false] 27 (0, 0)) ∧ bX < bZ ∧ w4b.heap.size ≤ bZ) := ⟨(hb.block _ (lt_of_block KZ_3.out.1)).trans KZ_3.out.1, KZ_3.out.2⟩
        have OZ_4 := OZ
        have hne : ∀ x, GZ x → x ≠ bZ := fun x hx => by have h7 := OZ.out.2 x hx; have h8 := lt_of_block KZ_3.out.1; omega
        refine hK.out _ _ (KK.out _ hXb.out) (fun hHeld => ?_)
        clear hK K hb
        refine wpAnyH_ready (rs := [9]) (by kernel_rfl) (by simp) ?_
        refine AllReadyH.cons rfl (fun K hK => ?_) AllReadyH.nil
        clear hHeld
        have z0 := cellsA KZ_4.out.1 0 rfl
        have f0 := freeA KZ_4.out.1 0
        have z1 := cellsA KZ_4.out.1 1 rfl
        have f1 := freeA KZ_4.out.1 1
        have z2 := cellsA KZ_4.out.1 2 rfl
        have f2 := freeA KZ_4.out.1 2
        have z3 := cellsA KZ_4.out.1 3 rfl
        have f3 := freeA KZ_4.out.1 3
        go_simp
        clear z0 z1 z2 z3 f0 f1 f2 f3
        have hbb := KZ_4.out.2.1
        refine hK.out _ _ (KK.out _ (block_set (block_set (block_set (block_set hXb.out (by omega)) (by omega)) (by omega)) (by omega))) (fun hHeld => ?_)
        clear hK K
        have hZlo : w4b.heap.size ≤ bZ := KZ_4.out.2.2
        have HZZ : Hd (Below w4b.heap.size w4b ((((v14.setCell ⟨bZ, 0, none⟩ (.slice Zx0 Zm0 Ze0)).setCell ⟨bZ, 1, none⟩ (.slice Zx1 Zm1 Ze1)).setCell ⟨bZ, 2, none⟩ (.int .i64 dz.fuse)).setCell ⟨bZ, 3, none⟩ (.bool dz.down)) ∧ (∃ k, dz = fallD dx k) ∧ BR 27 RdDev bZ [.slice Zx0 Zm0 Ze0, .slice Zx1 Zm1 Ze1, .int .i64 dz.fuse, .bool dz.down] dz ((((v14.setCell ⟨bZ, 0, none⟩ (.slice Zx0 Zm0 Ze0)).setCell ⟨bZ, 1, none⟩ (.slice Zx1 Zm1 Ze1)).setCell ⟨bZ, 2, none⟩ (.int .i64 dz.fuse)).setCell ⟨bZ, 3, none⟩ (.bool dz.down))) := ⟨bset (bset (bset (bset E4.out _ hZlo) _ hZlo) _ hZlo) _ hZlo, HDz.out, ⟨four_at KZ_4.out.1 _ _ _ _, owDev_ok.rd (owDev_ok.keep OZ_4.out.1 (fun b hb => block_set (block_set (block_set (block_set rfl (hne b hb)) (hne b hb)) (hne b hb)) (hne b hb)))⟩⟩
        refine wpAnyH_done (by kernel_rfl) ?_ _
        clear hHeld
        go_wp2_with fail
        go_meet
        exact ⟨bZ, dz, Zx0, Zm0, Ze0, Zx1, Zm1, Ze1, rfl, HZZ⟩
      exact AllReadyH.nil
    refine AllReadyH.cons rfl (fun K hK => ?_) ?_
    · clear hHeld
      go_simp
      obtain ⟨v11, hW9⟩ : ∃ W, (w4b.alloc (.cells #[.slice none 0 0, .slice none 0 0, .int .i64 0, .bool false] 27)).drew = W := ⟨_, rfl⟩
      obtain ⟨bZ, hbZ⟩ : ∃ b, w4b.heap.size = b := ⟨_, rfl⟩
      rewrite [hW9]
      rewrite [hbZ]
      have hb : Below (w4b.drew).heap.size (w4b.drew) v11 := by
        rw [← hW9]
        have h7 := (below_lit w4b (.cells #[.slice none 0 0, .slice none 0 0, .int .i64 0, .bool false] 27)).drew
        exact ⟨h7.os, h7.tape, h7.output, h7.size, h7.block⟩
      have KZ_1 : Hd (v11.heap[bZ]? = some (.cells #[.slice none 0 0, .slice none 0 0, .int .i64 0, .bool false] 27 (0, 0)) ∧ bX < bZ ∧ w4b.heap.size ≤ bZ) := ⟨by rw [← hW9, ← hbZ]; exact heap_alloc_new _ _, by rw [← hbZ]; exact Nat.lt_of_lt_of_le (lt_of_block X_2.out.box) E0.out.size, by rw [← hbZ]; exact E0.out.size⟩
      have E1 : Hd (Below w4b.heap.size w4b v11) := ⟨Below.next E0.out hb⟩
      have hXb : Hd (v11.heap[bX]? = some (.cells #[.slice Xx0 Xm0 Xe0, .slice Xx1 Xm1 Xe1, .int .i64 dx.fuse, .bool dx.down] 27 (0, 0))) := ⟨(hb.block _ (lt_of_block hXb.out)).trans hXb.out⟩
      refine hK.out _ _ (KK.out _ hXb.out) (fun hHeld => ?_)
      clear hK K hb hW9 hbZ
      skip
      refine wpAnyH_ready (rs := [2]) (by kernel_rfl) (by simp) ?_
      refine AllReadyH.cons rfl (fun K hK => ?_) AllReadyH.nil
      clear hHeld
      rw [if_pos (by rfl)]
      go_wp2_with (go_at_call 7; (refine (at_int x0 len0 cap0 p0 5 _ HL.out (by omega) (rdB_parts (rdB_ok.below HC_w4b.out E1.out)).2).mono ?_; rintro e v12 ⟨a5, _, _, rfl, hw9⟩; have hb : Below (v11).heap.size (v11) v12 := (by rw [hw9] <;> exact Below.refl _ _); clear hw9))
      have E2 : Hd (Below w4b.heap.size w4b v12) := ⟨Below.next E1.out hb⟩
      have hXb : Hd (v12.heap[bX]? = some (.cells #[.slice Xx0 Xm0 Xe0, .slice Xx1 Xm1 Xe1, .int .i64 dx.fuse, .bool dx.down] 27 (0, 0))) := ⟨(hb.block _ (lt_of_block hXb.out)).trans hXb.out⟩
      have KZ_2 : Hd (v12.heap[bZ]? = some (.cells #[.slice none 0 0, .slice none 0 0, .int .i64 0, .bool false] 27 (0, 0)) ∧ bX < bZ ∧ w4b.heap.size ≤ bZ) := ⟨(hb.block _ (lt_of_block KZ_1.out.1)).trans KZ_1.out.1, KZ_1.out.2⟩
      refine hK.out _ _ (KK.out _ hXb.out) (fun hHeld => ?_)
      clear hK K hb
      refine wpAnyH_take (i := 3) (oi := { dst := some 38, op := Op.binOp BinOp.mul 3 (Operand.tmp 37) (Operand.const (Value.int IntKind.i64 256)) 3, type := 3, pos := _, after := #[{ on := 2, ground := Ground.data }], guard := none }) (v := ?_) rfl (by kernel_rfl) (by kernel_rfl) (by kernel_rfl) (fun _ _ _ h => h) (Or.inl ⟨by rfl, ?_⟩) (by assumption) ?_
      rotate_left
      · intro w9 hSw
        try dsimp only at hSw
        go_simp
        try with_reducible rfl
      simp only [Act.put, List.setIfInBounds_toArray, List.set_cons_zero, List.set_cons_succ]
      refine wpAnyH_ready (rs := [5]) (by kernel_rfl) (by simp) ?_
      refine AllReadyH.cons rfl (fun K hK => ?_) AllReadyH.nil
      clear hHeld
      rw [if_pos (by rfl)]
      go_wp2_with (go_at_call 7; (refine (at_int x0 len0 cap0 p0 6 _ HL.out (by omega) (rdB_parts (rdB_ok.below HC_w4b.out E2.out)).2).mono ?_; rintro e v13 ⟨a6, _, _, rfl, hw9⟩; have hb : Below (v12).heap.size (v12) v13 := (by rw [hw9] <;> exact Below.refl _ _); clear hw9))
      have E3 : Hd (Below w4b.heap.size w4b v13) := ⟨Below.next E2.out hb⟩
      have hXb : Hd (v13.heap[bX]? = some (.cells #[.slice Xx0 Xm0 Xe0, .slice Xx1 Xm1 Xe1, .int .i64 dx.fuse, .bool dx.down] 27 (0, 0))) := ⟨(hb.block _ (lt_of_block hXb.out)).trans hXb.out⟩
      have KZ_3 : Hd (v13.heap[bZ]? = some (.cells #[.slice none 0 0, .slice none 0 0, .int .i64 0, .bool false] 27 (0, 0)) ∧ bX < bZ ∧ w4b.heap.size ≤ bZ) := ⟨(hb.block _ (lt_of_block KZ_2.out.1)).trans KZ_2.out.1, KZ_2.out.2⟩
      refine hK.out _ _ (KK.out _ hXb.out) (fun hHeld => ?_)
      clear hK K hb
      refine wpAnyH_take (i := 6) (oi := { dst := some 41, op := Op.binOp BinOp.add 3 (Operand.tmp 38) (Operand.tmp 40) 3, type := 3, pos := _, after := #[{ on := 3, ground := Ground.data }, { on := 5, ground := Ground.data }], guard := none }) (v := ?_) rfl (by kernel_rfl) (by kernel_rfl) (by kernel_rfl) (fun _ _ _ h => h) (Or.inl ⟨by rfl, ?_⟩) (by assumption) ?_
      rotate_left
      · intro w9 hSw
        try dsimp only at hSw
        go_simp
        try with_reducible rfl
      simp only [Act.put, List.setIfInBounds_toArray, List.set_cons_zero, List.set_cons_succ]
      refine wpAnyH_ready (rs := [7]) (by kernel_rfl) (by simp) ?_
      refine AllReadyH.cons rfl (fun K hK => ?_) AllReadyH.nil
      clear hHeld
      rw [if_pos (by rfl)]
      go_wp2_with (go_at_call 10; (refine (implFallDev_rd _ dx _ _ (X_2.out.below rdDev_ok E3.out).lo (Nat.le_trans (dev_wt HXo.out) (by omega))).mono ?_; rintro e v14 ⟨⟨csz, rfl, GZ, hEz, hFz⟩, hb⟩))
      generalize hdz : fallD dx _ = dz at hEz
      have HDz : Hd (∃ k, dz = fallD dx k) := ⟨_, hdz.symm⟩
      clear hdz
      obtain ⟨Zx0, Zm0, Ze0, Zx1, Zm1, Ze1, G0, G1, rfl, _⟩ := id hEz
      have OZ : Hd (OwDev v14 [.slice Zx0 Zm0 Ze0, .slice Zx1 Zm1 Ze1, .int .i64 dz.fuse, .bool dz.down] GZ dz ∧ ∀ x, GZ x → (v13).heap.size ≤ x) := ⟨hEz, hFz⟩
      clear hEz hFz
      have E4 : Hd (Below w4b.heap.size w4b v14) := ⟨Below.next E3.out hb⟩
      have hXb : Hd (v14.heap[bX]? = some (.cells #[.slice Xx0 Xm0 Xe0, .slice Xx1 Xm1 Xe1, .int .i64 dx.fuse, .bool dx.down] 27 (0, 0))) := ⟨(hb.block _ (lt_of_block hXb.out)).trans hXb.out⟩
      have KZ_4 : Hd (v14.heap[bZ]? = some (.cells #[.slice none 0 0, .slice none 0 0, .int .i64 0, .bool false] 27 (0, 0)) ∧ bX < bZ ∧ w4b.heap.size ≤ bZ) := ⟨(hb.block _ (lt_of_block KZ_3.out.1)).trans KZ_3.out.1, KZ_3.out.2⟩
      have OZ_4 := OZ
      have hne : ∀ x, GZ x → x ≠ bZ := fun x hx => by have h7 := OZ.out.2 x hx; have h8 := lt_of_block KZ_3.out.1; omega
      refine hK.out _ _ (KK.out _ hXb.out) (fun hHeld => ?_)
      clear hK K hb
      refine wpAnyH_ready (rs := [9]) (by kernel_rfl) (by simp) ?_
      refine AllReadyH.cons rfl (fun K hK => ?_) AllReadyH.nil
      clear hHeld
      have z0 := cellsA KZ_4.out.1 0 rfl
      have f0 := freeA KZ_4.out.1 0
      have z1 := cellsA KZ_4.out.1 1 rfl
      have f1 := freeA KZ_4.out.1 1
      have z2 := cellsA KZ_4.out.1 2 rfl
      have f2 := freeA KZ_4.out.1 2
      have z3 := cellsA KZ_4.out.1 3 rfl
      have f3 := freeA KZ_4.out.1 3
      go_simp
      clear z0 z1 z2 z3 f0 f1 f2 f3
      have hbb := KZ_4.out.2.1
      refine hK.out _ _ (KK.out _ (block_set (block_set (block_set (block_set hXb.out (by omega)) (by omega)) (by omega)) (by omega))) (fun hHeld => ?_)
      clear hK K
      have hZlo : w4b.heap.size ≤ bZ := KZ_4.out.2.2
      have HZZ : Hd (Below w4b.heap.size w4b ((((v14.setCell ⟨bZ, 0, none⟩ (.slice Zx0 Zm0 Ze0)).setCell ⟨bZ, 1, none⟩ (.slice Zx1 Zm1 Ze1)).setCell ⟨bZ, 2, none⟩ (.int .i64 dz.fuse)).setCell ⟨bZ, 3, none⟩ (.bool dz.down)) ∧ (∃ k, dz = fallD dx k) ∧ BR 27 RdDev bZ [.slice Zx0 Zm0 Ze0, .slice Zx1 Zm1 Ze1, .int .i64 dz.fuse, .bool dz.down] dz ((((v14.setCell ⟨bZ, 0, none⟩ (.slice Zx0 Zm0 Ze0)).setCell ⟨bZ, 1, none⟩ (.slice Zx1 Zm1 Ze1)).setCell ⟨bZ, 2, none⟩ (.int .i64 dz.fuse)).setCell ⟨bZ, 3, none⟩ (.bool dz.down))) := ⟨bset (bset (bset (bset E4.out _ hZlo) _ hZlo) _ hZlo) _ hZlo, HDz.out, ⟨four_at KZ_4.out.1 _ _ _ _, owDev_ok.rd (owDev_ok.keep OZ_4.out.1 (fun b hb => block_set (block_set (block_set (block_set rfl (hne b hb)) (hne b hb)) (hne b hb)) (hne b hb)))⟩⟩
      refine wpAnyH_done (by kernel_rfl) ?_ _
      clear hHeld
      go_wp2_with fail
      go_meet
      exact ⟨bZ, dz, Zx0, Zm0, Ze0, Zx1, Zm1, Ze1, rfl, HZZ⟩
    exact AllReadyH.nil
  case rest =>
    obtain ⟨bZ, dz, Zx0, Zm0, Ze0, Zx1, Zm1, Ze1, rfl, hZ⟩ := hcut
    obtain ⟨wt, hwt⟩ : ∃ W, W = wc := ⟨_, rfl⟩
    subst hwt
    have hB : Below w4b.heap.size w4b wt := hZ.out.1
    have HZk : Hd (∃ k, dz = fallD dx k) := ⟨hZ.out.2.1⟩
    have Z_0 : Hd (BR 27 RdDev bZ [.slice Zx0 Zm0 Ze0, .slice Zx1 Zm1 Ze1, .int .i64 dz.fuse, .bool dz.down] (dz) wt) := ⟨hZ.out.2.2⟩
    clear hZ
    have A_7 : Hd (BR 27 RdDev bA [.slice Ax0 Am0 Ae0, .slice Ax1 Am1 Ae1, .int .i64 d.fuse, .bool d.down] (d) wt) := ⟨A_6.out.below rdDev_ok hB⟩
    clear A_6
    have X_3 : Hd (BR 27 RdDev bX [.slice Xx0 Xm0 Xe0, .slice Xx1 Xm1 Xe1, .int .i64 dx.fuse, .bool dx.down] (dx) wt) := ⟨X_2.out.below rdDev_ok hB⟩
    clear X_2
    have F_1 : Hd (BR 27 RdDev bF [.slice Fx0 Fm0 Fe0, .slice Fx1 Fm1 Fe1, .int .i64 df.fuse, .bool df.down] (df) wt) := ⟨F_0.out.below rdDev_ok hB⟩
    clear F_0
    have HC_wt : Hd (RdB wt [.slice x0 len0 cap0] p0) := ⟨rdB_ok.below HC_w4b.out hB⟩
    clear HC_w4b
    have HY_wt : Hd (RdB wt [.slice (some ⟨gb, 0, none⟩) 2 2] [y3, y4]) := ⟨rdB_ok.below HY_w4b.out hB⟩
    clear HY_w4b
    have BW_wt : Hd (Below w.heap.size w wt) := ⟨Below.next BW_w4b.out hB⟩
    clear BW_w4b hB
    have HLen : Hd (dx.secs.length = Am0 ∧ dz.secs.length = Am0 ∧ Xm0 = Am0 ∧ Zm0 = Am0 ∧ Xm1 = dx.cache.length ∧ dx.cache.length ≤ 40 ∧ dx.down = false ∧ dx.fuse = -1) := ⟨by
      have hw := fresh_put (n := n) (b := [y3, y4]) HD.out.1 (by have := HD.out.2.1; omega)
      rw [HX.out] at hw
      obtain ⟨k9, hk9⟩ := HZk.out
      have hz : dz.secs.length = dx.secs.length := by rw [hk9]; exact fallD_len dx k9
      have h1 := dev_lens X_3.out.lo
      have h2 := dev_lens Z_0.out.lo
      have h3 := HM.out
      exact ⟨by omega, by omega, by omega, by omega, by omega, Nat.le_of_lt hw.1.room, hw.1.up, hw.1.fuse⟩⟩
    obtain ⟨xb, xo, hx9, GX⟩ := dev_some X_3.out.lo (by have := HLen.out; have := HM.out; omega)
    subst hx9
    obtain ⟨zb, zo, hx9, GZs⟩ := dev_some Z_0.out.lo (by have := HLen.out; have := HM.out; omega)
    subst hx9
    have hpos : 0 < Xm1 := by
      have h9 := fresh_write (b := [y3, y4]) HD.out.1 (n := n) (by have h1 := HM.out.1; have h3 := HNN.out; unfold inSecs; exact decide_eq_true (by omega)) (by simp)
      rw [HX.out] at h9
      have h8 := HLen.out.2.2.2.2.1
      rw [h9] at h8
      rw [h8]
      show 0 < (d.cache ++ [_]).length
      rw [List.length_append]
      simp
    obtain ⟨xb1, xo1, hx9, GC⟩ := dev_some1 X_3.out.lo hpos
    subst hx9
    clear hpos
    have HGX := Hd.mk GX
    have HGZ := Hd.mk GZs
    have HGC := Hd.mk GC
    clear GX GZs GC
    have HFx : Hd (Fresh dx) := ⟨by have hw := fresh_put (n := n) (b := [y3, y4]) HD.out.1 (by have := HD.out.2.1; omega); rw [HX.out] at hw; exact hw.1⟩
    go_wp2_with fail
    go_loopw [9] (fun i wr => ∃ k : Nat, k ≤ Am0 ∧ i = .int .i64 k ∧ Hd (Below wt.heap.size wt wr)) (fun i _ => Am0 - (intOf i).toNat)
    case atStart => exact ⟨0, Nat.zero_le _, rfl, ⟨Below.refl _ _⟩⟩
    case round =>
      obtain ⟨k, hk, rfl, HBL⟩ := hrel
      have a_0 : Hd (BR 27 RdDev bA [.slice Ax0 Am0 Ae0, .slice Ax1 Am1 Ae1, .int .i64 d.fuse, .bool d.down] (d) wr) := ⟨A_7.out.below rdDev_ok HBL.out⟩
      have x_0 : Hd (BR 27 RdDev bX [.slice (some ⟨xb, xo, none⟩) Xm0 Xe0, .slice (some ⟨xb1, xo1, none⟩) Xm1 Xe1, .int .i64 dx.fuse, .bool dx.down] (dx) wr) := ⟨X_3.out.below rdDev_ok HBL.out⟩
      have f_0 : Hd (BR 27 RdDev bF [.slice Fx0 Fm0 Fe0, .slice Fx1 Fm1 Fe1, .int .i64 df.fuse, .bool df.down] (df) wr) := ⟨F_1.out.below rdDev_ok HBL.out⟩
      have z_0 : Hd (BR 27 RdDev bZ [.slice (some ⟨zb, zo, none⟩) Zm0 Ze0, .slice Zx1 Zm1 Ze1, .int .i64 dz.fuse, .bool dz.down] (dz) wr) := ⟨Z_0.out.below rdDev_ok HBL.out⟩
      have ca0 := cellsA a_0.out.box 0 rfl
      by_cases hlt : k < Am0
      · have hlt1 : (k : Int) < (Am0 : Int) := by omega
        have hk0 : (0 : Int) ≤ (k : Int) := by omega
        have HIn : Hd (inSecs dx (k : Int) = true ∧ inSecs d (k : Int) = true ∧ inSecs d n = true) := ⟨by
          have h1 := HLen.out.1
          have h2 := HM.out.1
          have h3 := HNN.out
          unfold inSecs
          exact ⟨decide_eq_true (by omega), decide_eq_true (by omega), decide_eq_true (by omega)⟩⟩
        have HE1 : Hd (readD df (k : Int) = readD dx (k : Int)) := ⟨by rw [← HF.out]; exact (flush_read HFx.out.ok HFx.out.up HFx.out.fuse HIn.out.1).1⟩
        obtain ⟨SX, hSX⟩ : ∃ S, strB (readD dx (k : Int)) = S := ⟨_, rfl⟩
        have HSX : Hd (strB (readD dx (k : Int)) = SX) := ⟨hSX⟩
        clear hSX
        go_wp2_with fail
        clear ca0
        go_cut [74] (fun c wq => c = .bool false ∧ Hd (Below wr.heap.size wr wq))
        case first =>
          by_cases hkn : (k : Int) = n
          · subst hkn
            have hkb : ((k : Int) != (k : Int)) = false := by simp
            have KK0 : Hd (∀ w', Below wr.heap.size wr w' → (w'.cell? ⟨bF, 0, none⟩ = some (.slice Fx0 Fm0 Fe0) ∧ w'.cell? ⟨bF, 1, none⟩ = some (.slice Fx1 Fm1 Fe1) ∧ w'.cell? ⟨bF, 2, none⟩ = some (.int .i64 df.fuse) ∧ w'.cell? ⟨bF, 3, none⟩ = some (.bool df.down) ∧ w'.cell? ⟨bX, 0, none⟩ = some (.slice (some ⟨xb, xo, none⟩) Xm0 Xe0) ∧ w'.cell? ⟨bX, 1, none⟩ = some (.slice (some ⟨xb1, xo1, none⟩) Xm1 Xe1) ∧ w'.cell? ⟨bX, 2, none⟩ = some (.int .i64 dx.fuse) ∧ w'.cell? ⟨bX, 3, none⟩ = some (.bool dx.down) ∧ w'.cell? ⟨bA, 0, none⟩ = some (.slice Ax0 Am0 Ae0) ∧ w'.cell? ⟨bA, 1, none⟩ = some (.slice Ax1 Am1 Ae1) ∧ w'.cell? ⟨bA, 2, none⟩ = some (.int .i64 d.fuse) ∧ w'.cell? ⟨bA, 3, none⟩ = some (.bool d.down))) := ⟨fun w' hb => ⟨cell_below (cellsA f_0.out.box 0 rfl) hb, cell_below (cellsA f_0.out.box 1 rfl) hb, cell_below (cellsA f_0.out.box 2 rfl) hb, cell_below (cellsA f_0.out.box 3 rfl) hb, cell_below (cellsA x_0.out.box 0 rfl) hb, cell_below (cellsA x_0.out.box 1 rfl) hb, cell_below (cellsA x_0.out.box 2 rfl) hb, cell_below (cellsA x_0.out.box 3 rfl) hb, cell_below (cellsA a_0.out.box 0 rfl) hb, cell_below (cellsA a_0.out.box 1 rfl) hb, cell_below (cellsA a_0.out.box 2 rfl) hb, cell_below (cellsA a_0.out.box 3 rfl) hb⟩⟩
            refine wp_region_held_drew (S := fun w' => (w'.cell? ⟨bF, 0, none⟩ = some (.slice Fx0 Fm0 Fe0) ∧ w'.cell? ⟨bF, 1, none⟩ = some (.slice Fx1 Fm1 Fe1) ∧ w'.cell? ⟨bF, 2, none⟩ = some (.int .i64 df.fuse) ∧ w'.cell? ⟨bF, 3, none⟩ = some (.bool df.down) ∧ w'.cell? ⟨bX, 0, none⟩ = some (.slice (some ⟨xb, xo, none⟩) Xm0 Xe0) ∧ w'.cell? ⟨bX, 1, none⟩ = some (.slice (some ⟨xb1, xo1, none⟩) Xm1 Xe1) ∧ w'.cell? ⟨bX, 2, none⟩ = some (.int .i64 dx.fuse) ∧ w'.cell? ⟨bX, 3, none⟩ = some (.bool dx.down) ∧ w'.cell? ⟨bA, 0, none⟩ = some (.slice Ax0 Am0 Ae0) ∧ w'.cell? ⟨bA, 1, none⟩ = some (.slice Ax1 Am1 Ae1) ∧ w'.cell? ⟨bA, 2, none⟩ = some (.int .i64 d.fuse) ∧ w'.cell? ⟨bA, 3, none⟩ = some (.bool d.down))) (by kernel_rfl) (KK0.out _ (Below.refl _ wr).drew) (fun hHeld => ?_)
            have E0 : Hd (Below wr.heap.size wr wr.drew) := ⟨(Below.refl _ wr).drew⟩
            refine wpAnyH_take (i := 0) (oi := { dst := some 50, op := Op.load 27 (Operand.tmp 7), type := 27, pos := _, after := #[], guard := none }) (v := ?_) rfl (by kernel_rfl) (by kernel_rfl) (by kernel_rfl) (fun _ _ _ h => h) (Or.inl ⟨by rfl, ?_⟩) (by assumption) ?_
            rotate_left
            · intro w9 hSw
              try dsimp only at hSw
              go_simp
              try with_reducible rfl
            simp only [Act.put, List.setIfInBounds_toArray, List.set_cons_zero, List.set_cons_succ]
            refine wpAnyH_take (i := 1) (oi := { dst := some 51, op := Op.move (Operand.tmp 9), type := 3, pos := _, after := #[], guard := none }) (v := ?_) rfl (by kernel_rfl) (by kernel_rfl) (by kernel_rfl) (fun _ _ _ h => h) (Or.inl ⟨by rfl, ?_⟩) (by assumption) ?_
            rotate_left
            · intro w9 hSw
              try dsimp only at hSw
              go_simp
              try with_reducible rfl
            simp only [Act.put, List.setIfInBounds_toArray, List.set_cons_zero, List.set_cons_succ]
            refine wpAnyH_take (i := 4) (oi := { dst := some 54, op := Op.load 27 (Operand.tmp 6), type := 27, pos := _, after := #[], guard := none }) (v := ?_) rfl (by kernel_rfl) (by kernel_rfl) (by kernel_rfl) (fun _ _ _ h => h) (Or.inl ⟨by rfl, ?_⟩) (by assumption) ?_
            rotate_left
            · intro w9 hSw
              try dsimp only at hSw
              go_simp
              try with_reducible rfl
            simp only [Act.put, List.setIfInBounds_toArray, List.set_cons_zero, List.set_cons_succ]
            refine wpAnyH_take (i := 5) (oi := { dst := some 55, op := Op.move (Operand.tmp 9), type := 3, pos := _, after := #[], guard := none }) (v := ?_) rfl (by kernel_rfl) (by kernel_rfl) (by kernel_rfl) (fun _ _ _ h => h) (Or.inl ⟨by rfl, ?_⟩) (by assumption) ?_
            rotate_left
            · intro w9 hSw
              try dsimp only at hSw
              go_simp
              try with_reducible rfl
            simp only [Act.put, List.setIfInBounds_toArray, List.set_cons_zero, List.set_cons_succ]
            refine wpAnyH_ready (rs := [2]) (by kernel_rfl) (by simp) ?_
            refine AllReadyH.cons rfl (fun K hK => ?_) AllReadyH.nil
            clear hHeld
            rw [if_pos (by rfl)]
            go_wp2_with (go_at_call 11; (refine (implReadSec_ow _ df (k : Int) _ (f_0.out.below rdDev_ok E0.out).lo).mono ?_; rintro e q1 ⟨⟨ra0, rl0, rc0, rfl, GR, hER, _⟩, hb⟩))
            have HRB0 : Hd (RdB q1 [.slice ra0 rl0 rc0] (readD df (k : Int))) := ⟨owB_ok.rd hER⟩
            clear hER
            have E1 : Hd (Below wr.heap.size wr q1) := ⟨Below.next E0.out hb⟩
            have hS9 := KK0.out _ (E1.out)
            have hbx := hb
            clear hb
            have KK1 : Hd (∀ w', Below q1.heap.size q1 w' → ((w'.cell? ⟨bF, 0, none⟩ = some (.slice Fx0 Fm0 Fe0) ∧ w'.cell? ⟨bF, 1, none⟩ = some (.slice Fx1 Fm1 Fe1) ∧ w'.cell? ⟨bF, 2, none⟩ = some (.int .i64 df.fuse) ∧ w'.cell? ⟨bF, 3, none⟩ = some (.bool df.down) ∧ w'.cell? ⟨bX, 0, none⟩ = some (.slice (some ⟨xb, xo, none⟩) Xm0 Xe0) ∧ w'.cell? ⟨bX, 1, none⟩ = some (.slice (some ⟨xb1, xo1, none⟩) Xm1 Xe1) ∧ w'.cell? ⟨bX, 2, none⟩ = some (.int .i64 dx.fuse) ∧ w'.cell? ⟨bX, 3, none⟩ = some (.bool dx.down) ∧ w'.cell? ⟨bA, 0, none⟩ = some (.slice Ax0 Am0 Ae0) ∧ w'.cell? ⟨bA, 1, none⟩ = some (.slice Ax1 Am1 Ae1) ∧ w'.cell? ⟨bA, 2, none⟩ = some (.int .i64 d.fuse) ∧ w'.cell? ⟨bA, 3, none⟩ = some (.bool d.down)) ∧ (convert 22 9 (.slice ra0 rl0 rc0)).run Try.prog w' = .ok (.string SX) w')) := ⟨fun w' hb => ⟨KK0.out w' (Below.next E1.out hb), Reads.conv_eq (rdB_parts (rdB_ok.below HRB0.out hb)).2 rc0 (by rw [HE1.out]; exact HSX.out)⟩⟩
            refine hK.out _ _ hS9 (fun _ => ?_)
            clear hK K hS9
            have hHeld := KK1.out _ (Below.refl _ q1)
            refine wpAnyH_more (S' := fun w' => ((w'.cell? ⟨bF, 0, none⟩ = some (.slice Fx0 Fm0 Fe0) ∧ w'.cell? ⟨bF, 1, none⟩ = some (.slice Fx1 Fm1 Fe1) ∧ w'.cell? ⟨bF, 2, none⟩ = some (.int .i64 df.fuse) ∧ w'.cell? ⟨bF, 3, none⟩ = some (.bool df.down) ∧ w'.cell? ⟨bX, 0, none⟩ = some (.slice (some ⟨xb, xo, none⟩) Xm0 Xe0) ∧ w'.cell? ⟨bX, 1, none⟩ = some (.slice (some ⟨xb1, xo1, none⟩) Xm1 Xe1) ∧ w'.cell? ⟨bX, 2, none⟩ = some (.int .i64 dx.fuse) ∧ w'.cell? ⟨bX, 3, none⟩ = some (.bool dx.down) ∧ w'.cell? ⟨bA, 0, none⟩ = some (.slice Ax0 Am0 Ae0) ∧ w'.cell? ⟨bA, 1, none⟩ = some (.slice Ax1 Am1 Ae1) ∧ w'.cell? ⟨bA, 2, none⟩ = some (.int .i64 d.fuse) ∧ w'.cell? ⟨bA, 3, none⟩ = some (.bool d.down)) ∧ (convert 22 9 (.slice ra0 rl0 rc0)).run Try.prog w' = .ok (.string SX) w')) (fun w' h => h.1) _ _ _ _ ?_
            clear hbx KK0
            refine wpAnyH_take (i := 3) (oi := { dst := some 53, op := Op.convert 22 9 (Operand.tmp 52), type := 9, pos := _, after := #[{ on := 2, ground := Ground.data }], guard := none }) (v := ?_) rfl (by kernel_rfl) (by kernel_rfl) (by kernel_rfl) (fun _ _ _ h => h) (Or.inl ⟨by rfl, ?_⟩) (by assumption) ?_
            rotate_left
            · intro w9 hSw
              try dsimp only at hSw
              go_simp
              try with_reducible rfl
            simp only [Act.put, List.setIfInBounds_toArray, List.set_cons_zero, List.set_cons_succ]
            refine wpAnyH_ready (rs := [6]) (by kernel_rfl) (by simp) ?_
            refine AllReadyH.cons rfl (fun K hK => ?_) AllReadyH.nil
            clear hHeld
            rw [if_pos (by rfl)]
            go_wp2_with (go_at_call 11; (refine (implReadSec_ow _ dx (k : Int) _ (x_0.out.below rdDev_ok E1.out).lo).mono ?_; rintro e q2 ⟨⟨ra1, rl1, rc1, rfl, GR, hER, _⟩, hb⟩))
            have HRB1 : Hd (RdB q2 [.slice ra1 rl1 rc1] (readD dx (k : Int))) := ⟨owB_ok.rd hER⟩
            clear hER
            have E2 : Hd (Below wr.heap.size wr q2) := ⟨Below.next E1.out hb⟩
            have hS9 := KK1.out _ (hb)
            have hbx := hb
            clear hb
            have KK2 : Hd (∀ w', Below q2.heap.size q2 w' → (((w'.cell? ⟨bF, 0, none⟩ = some (.slice Fx0 Fm0 Fe0) ∧ w'.cell? ⟨bF, 1, none⟩ = some (.slice Fx1 Fm1 Fe1) ∧ w'.cell? ⟨bF, 2, none⟩ = some (.int .i64 df.fuse) ∧ w'.cell? ⟨bF, 3, none⟩ = some (.bool df.down) ∧ w'.cell? ⟨bX, 0, none⟩ = some (.slice (some ⟨xb, xo, none⟩) Xm0 Xe0) ∧ w'.cell? ⟨bX, 1, none⟩ = some (.slice (some ⟨xb1, xo1, none⟩) Xm1 Xe1) ∧ w'.cell? ⟨bX, 2, none⟩ = some (.int .i64 dx.fuse) ∧ w'.cell? ⟨bX, 3, none⟩ = some (.bool dx.down) ∧ w'.cell? ⟨bA, 0, none⟩ = some (.slice Ax0 Am0 Ae0) ∧ w'.cell? ⟨bA, 1, none⟩ = some (.slice Ax1 Am1 Ae1) ∧ w'.cell? ⟨bA, 2, none⟩ = some (.int .i64 d.fuse) ∧ w'.cell? ⟨bA, 3, none⟩ = some (.bool d.down)) ∧ (convert 22 9 (.slice ra0 rl0 rc0)).run Try.prog w' = .ok (.string SX) w') ∧ (convert 22 9 (.slice ra1 rl1 rc1)).run Try.prog w' = .ok (.string SX) w')) := ⟨fun w' hb => ⟨KK1.out w' (Below.next hbx hb), Reads.conv_eq (rdB_parts (rdB_ok.below HRB1.out hb)).2 rc1 (HSX.out)⟩⟩
            refine hK.out _ _ hS9 (fun _ => ?_)
            clear hK K hS9
            have hHeld := KK2.out _ (Below.refl _ q2)
            refine wpAnyH_more (S' := fun w' => (((w'.cell? ⟨bF, 0, none⟩ = some (.slice Fx0 Fm0 Fe0) ∧ w'.cell? ⟨bF, 1, none⟩ = some (.slice Fx1 Fm1 Fe1) ∧ w'.cell? ⟨bF, 2, none⟩ = some (.int .i64 df.fuse) ∧ w'.cell? ⟨bF, 3, none⟩ = some (.bool df.down) ∧ w'.cell? ⟨bX, 0, none⟩ = some (.slice (some ⟨xb, xo, none⟩) Xm0 Xe0) ∧ w'.cell? ⟨bX, 1, none⟩ = some (.slice (some ⟨xb1, xo1, none⟩) Xm1 Xe1) ∧ w'.cell? ⟨bX, 2, none⟩ = some (.int .i64 dx.fuse) ∧ w'.cell? ⟨bX, 3, none⟩ = some (.bool dx.down) ∧ w'.cell? ⟨bA, 0, none⟩ = some (.slice Ax0 Am0 Ae0) ∧ w'.cell? ⟨bA, 1, none⟩ = some (.slice Ax1 Am1 Ae1) ∧ w'.cell? ⟨bA, 2, none⟩ = some (.int .i64 d.fuse) ∧ w'.cell? ⟨bA, 3, none⟩ = some (.bool d.down)) ∧ (convert 22 9 (.slice ra0 rl0 rc0)).run Try.prog w' = .ok (.string SX) w') ∧ (convert 22 9 (.slice ra1 rl1 rc1)).run Try.prog w' = .ok (.string SX) w')) (fun w' h => h.1) _ _ _ _ ?_
            clear hbx KK1
            refine wpAnyH_take (i := 7) (oi := { dst := some 57, op := Op.convert 22 9 (Operand.tmp 56), type := 9, pos := _, after := #[{ on := 6, ground := Ground.data }], guard := none }) (v := ?_) rfl (by kernel_rfl) (by kernel_rfl) (by kernel_rfl) (fun _ _ _ h => h) (Or.inl ⟨by rfl, ?_⟩) (by assumption) ?_
            rotate_left
            · intro w9 hSw
              try dsimp only at hSw
              go_simp
              try with_reducible rfl
            simp only [Act.put, List.setIfInBounds_toArray, List.set_cons_zero, List.set_cons_succ]
            refine wpAnyH_take (i := 8) (oi := { dst := some 58, op := Op.binOp BinOp.neq 9 (Operand.tmp 53) (Operand.tmp 57) 9, type := 4, pos := _, after := #[{ on := 3, ground := Ground.data }, { on := 7, ground := Ground.data }], guard := none }) (v := ?_) rfl (by kernel_rfl) (by kernel_rfl) (by kernel_rfl) (fun _ _ _ h => h) (Or.inl ⟨by rfl, ?_⟩) (by assumption) ?_
            rotate_left
            · intro w9 hSw
              try dsimp only at hSw
              go_simp
              try with_reducible rfl
            simp only [Act.put, List.setIfInBounds_toArray, List.set_cons_zero, List.set_cons_succ]
            refine wpAnyH_take (i := 9) (oi := { dst := some 59, op := Op.move (Operand.tmp 58), type := 4, pos := _, after := #[{ on := 8, ground := Ground.data }, { on := 6, ground := Ground.chain }], guard := none }) (v := ?_) rfl (by kernel_rfl) (by kernel_rfl) (by kernel_rfl) (fun _ _ _ h => h) (Or.inl ⟨by rfl, ?_⟩) (by assumption) ?_
            rotate_left
            · intro w9 hSw
              try dsimp only at hSw
              go_simp
              try with_reducible rfl
            simp only [Act.put, List.setIfInBounds_toArray, List.set_cons_zero, List.set_cons_succ]
            refine wpAnyH_take (i := 10) (oi := { dst := some 60, op := Op.move (Operand.tmp 9), type := 3, pos := _, after := #[{ on := 9, ground := Ground.guard }], guard := some (9, false) }) (v := ?_) rfl (by kernel_rfl) (by kernel_rfl) (by kernel_rfl) (fun _ _ _ h => h) (Or.inl ⟨by rfl, ?_⟩) (by assumption) ?_
            rotate_left
            · intro w9 hSw
              try dsimp only at hSw
              go_simp
              try with_reducible rfl
            simp only [Act.put, List.setIfInBounds_toArray, List.set_cons_zero, List.set_cons_succ]
            refine wpAnyH_take (i := 11) (oi := { dst := some 61, op := Op.move (Operand.tmp 4), type := 3, pos := _, after := #[{ on := 9, ground := Ground.guard }], guard := some (9, false) }) (v := ?_) rfl (by kernel_rfl) (by kernel_rfl) (by kernel_rfl) (fun _ _ _ h => h) (Or.inl ⟨by rfl, ?_⟩) (by assumption) ?_
            rotate_left
            · intro w9 hSw
              try dsimp only at hSw
              go_simp
              try with_reducible rfl
            simp only [Act.put, List.setIfInBounds_toArray, List.set_cons_zero, List.set_cons_succ]
            refine wpAnyH_take (i := 12) (oi := { dst := some 62, op := Op.binOp BinOp.neq 3 (Operand.tmp 60) (Operand.tmp 61) 3, type := 4, pos := _, after := #[{ on := 10, ground := Ground.data }, { on := 11, ground := Ground.data }, { on := 9, ground := Ground.guard }], guard := some (9, false) }) (v := ?_) rfl (by kernel_rfl) (by kernel_rfl) (by kernel_rfl) (fun _ _ _ h => h) (Or.inl ⟨by rfl, ?_⟩) (by assumption) ?_
            rotate_left
            · intro w9 hSw
              try dsimp only at hSw
              go_simp
              try with_reducible rfl
            simp only [Act.put, List.setIfInBounds_toArray, List.set_cons_zero, List.set_cons_succ]
            refine wpAnyH_take (i := 13) (oi := { dst := some 63, op := Op.move (Operand.tmp 62), type := 4, pos := _, after := #[{ on := 12, ground := Ground.data }, { on := 9, ground := Ground.chain }, { on := 9, ground := Ground.guard }], guard := some (9, false) }) (v := ?_) rfl (by kernel_rfl) (by kernel_rfl) (by kernel_rfl) (fun _ _ _ h => h) (Or.inl ⟨by rfl, ?_⟩) (by assumption) ?_
            rotate_left
            · intro w9 hSw
              try dsimp only at hSw
              go_simp
              try with_reducible rfl
            simp only [Act.put, List.setIfInBounds_toArray, List.set_cons_zero, List.set_cons_succ]
            refine wpAnyH_take (i := 14) (oi := { dst := some 64, op := Op.load 27 (Operand.tmp 6), type := 27, pos := _, after := #[{ on := 13, ground := Ground.guard }], guard := some (13, true) }) (v := _) rfl (by kernel_rfl) (by kernel_rfl) (by kernel_rfl) (fun _ _ _ h => h) (Or.inr ⟨by rfl, rfl⟩) (by assumption) ?_
            simp only [Act.put, List.setIfInBounds_toArray, List.set_cons_zero, List.set_cons_succ]
            refine wpAnyH_take (i := 15) (oi := { dst := some 65, op := Op.move (Operand.tmp 9), type := 3, pos := _, after := #[{ on := 13, ground := Ground.guard }], guard := some (13, true) }) (v := _) rfl (by kernel_rfl) (by kernel_rfl) (by kernel_rfl) (fun _ _ _ h => h) (Or.inr ⟨by rfl, rfl⟩) (by assumption) ?_
            simp only [Act.put, List.setIfInBounds_toArray, List.set_cons_zero, List.set_cons_succ]
            refine wpAnyH_take (i := 16) (oi := { dst := some 66, op := Op.call { callee := Callee.value (Operand.func 11), args := #[Operand.tmp 64, Operand.tmp 65], argTypes := #[27, 3] }, type := 22, pos := _, after := #[{ on := 14, ground := Ground.data }, { on := 15, ground := Ground.data }, { on := 13, ground := Ground.chain }, { on := 13, ground := Ground.guard }], guard := some (13, true) }) (v := _) rfl (by kernel_rfl) (by kernel_rfl) (by kernel_rfl) (fun _ _ _ h => h) (Or.inr ⟨by rfl, rfl⟩) (by assumption) ?_
            simp only [Act.put, List.setIfInBounds_toArray, List.set_cons_zero, List.set_cons_succ]
            refine wpAnyH_take (i := 17) (oi := { dst := some 67, op := Op.convert 22 9 (Operand.tmp 66), type := 9, pos := _, after := #[{ on := 16, ground := Ground.data }, { on := 13, ground := Ground.guard }], guard := some (13, true) }) (v := _) rfl (by kernel_rfl) (by kernel_rfl) (by kernel_rfl) (fun _ _ _ h => h) (Or.inr ⟨by rfl, rfl⟩) (by assumption) ?_
            simp only [Act.put, List.setIfInBounds_toArray, List.set_cons_zero, List.set_cons_succ]
            refine wpAnyH_take (i := 18) (oi := { dst := some 68, op := Op.load 27 (Operand.tmp 3), type := 27, pos := _, after := #[{ on := 13, ground := Ground.guard }], guard := some (13, true) }) (v := _) rfl (by kernel_rfl) (by kernel_rfl) (by kernel_rfl) (fun _ _ _ h => h) (Or.inr ⟨by rfl, rfl⟩) (by assumption) ?_
            simp only [Act.put, List.setIfInBounds_toArray, List.set_cons_zero, List.set_cons_succ]
            refine wpAnyH_take (i := 19) (oi := { dst := some 69, op := Op.move (Operand.tmp 9), type := 3, pos := _, after := #[{ on := 13, ground := Ground.guard }], guard := some (13, true) }) (v := _) rfl (by kernel_rfl) (by kernel_rfl) (by kernel_rfl) (fun _ _ _ h => h) (Or.inr ⟨by rfl, rfl⟩) (by assumption) ?_
            simp only [Act.put, List.setIfInBounds_toArray, List.set_cons_zero, List.set_cons_succ]
            refine wpAnyH_take (i := 20) (oi := { dst := some 70, op := Op.call { callee := Callee.value (Operand.func 11), args := #[Operand.tmp 68, Operand.tmp 69], argTypes := #[27, 3] }, type := 22, pos := _, after := #[{ on := 18, ground := Ground.data }, { on := 19, ground := Ground.data }, { on := 16, ground := Ground.chain }, { on := 13, ground := Ground.guard }], guard := some (13, true) }) (v := _) rfl (by kernel_rfl) (by kernel_rfl) (by kernel_rfl) (fun _ _ _ h => h) (Or.inr ⟨by rfl, rfl⟩) (by assumption) ?_
            simp only [Act.put, List.setIfInBounds_toArray, List.set_cons_zero, List.set_cons_succ]
            refine wpAnyH_take (i := 21) (oi := { dst := some 71, op := Op.convert 22 9 (Operand.tmp 70), type := 9, pos := _, after := #[{ on := 20, ground := Ground.data }, { on := 13, ground := Ground.guard }], guard := some (13, true) }) (v := _) rfl (by kernel_rfl) (by kernel_rfl) (by kernel_rfl) (fun _ _ _ h => h) (Or.inr ⟨by rfl, rfl⟩) (by assumption) ?_
            simp only [Act.put, List.setIfInBounds_toArray, List.set_cons_zero, List.set_cons_succ]
            refine wpAnyH_take (i := 22) (oi := { dst := some 72, op := Op.binOp BinOp.neq 9 (Operand.tmp 67) (Operand.tmp 71) 9, type := 4, pos := _, after := #[{ on := 17, ground := Ground.data }, { on := 21, ground := Ground.data }, { on := 13, ground := Ground.guard }], guard := some (13, true) }) (v := _) rfl (by kernel_rfl) (by kernel_rfl) (by kernel_rfl) (fun _ _ _ h => h) (Or.inr ⟨by rfl, rfl⟩) (by assumption) ?_
            simp only [Act.put, List.setIfInBounds_toArray, List.set_cons_zero, List.set_cons_succ]
            refine wpAnyH_take (i := 23) (oi := { dst := some 73, op := Op.pick (Operand.tmp 63) (Operand.tmp 72) (Operand.const (Value.bool false)), type := 4, pos := _, after := #[{ on := 13, ground := Ground.data }, { on := 22, ground := Ground.data }, { on := 9, ground := Ground.guard }], guard := some (9, false) }) (v := ?_) rfl (by kernel_rfl) (by kernel_rfl) (by kernel_rfl) (fun _ _ _ h => h) (Or.inl ⟨by rfl, ?_⟩) (by assumption) ?_
            rotate_left
            · intro w9 hSw
              try dsimp only at hSw
              go_simp
              try with_reducible rfl
            simp only [Act.put, List.setIfInBounds_toArray, List.set_cons_zero, List.set_cons_succ]
            refine wpAnyH_take (i := 24) (oi := { dst := some 74, op := Op.pick (Operand.tmp 59) (Operand.const (Value.bool true)) (Operand.tmp 73), type := 4, pos := _, after := #[{ on := 9, ground := Ground.data }, { on := 23, ground := Ground.data }], guard := none }) (v := ?_) rfl (by kernel_rfl) (by kernel_rfl) (by kernel_rfl) (fun _ _ _ h => h) (Or.inl ⟨by rfl, ?_⟩) (by assumption) ?_
            rotate_left
            · intro w9 hSw
              try dsimp only at hSw
              go_simp
              try with_reducible rfl
            simp only [Act.put, List.setIfInBounds_toArray, List.set_cons_zero, List.set_cons_succ]
            refine wpAnyH_done (by kernel_rfl) ?_ _
            clear hHeld KK2
            go_wp2_with fail
            go_meet
            exact ⟨rfl, ⟨E2.out⟩⟩
          · have hkb : ((k : Int) != n) = true := by simp [hkn]
            have HE2 : Hd (readD dx (k : Int) = readD d (k : Int)) := ⟨by rw [← HX.out, write_read HD.out.1 HIn.out.2.2 (by simp) HIn.out.2.1, if_neg (fun e => hkn e.symm)]⟩
            have KK0 : Hd (∀ w', Below wr.heap.size wr w' → (w'.cell? ⟨bF, 0, none⟩ = some (.slice Fx0 Fm0 Fe0) ∧ w'.cell? ⟨bF, 1, none⟩ = some (.slice Fx1 Fm1 Fe1) ∧ w'.cell? ⟨bF, 2, none⟩ = some (.int .i64 df.fuse) ∧ w'.cell? ⟨bF, 3, none⟩ = some (.bool df.down) ∧ w'.cell? ⟨bX, 0, none⟩ = some (.slice (some ⟨xb, xo, none⟩) Xm0 Xe0) ∧ w'.cell? ⟨bX, 1, none⟩ = some (.slice (some ⟨xb1, xo1, none⟩) Xm1 Xe1) ∧ w'.cell? ⟨bX, 2, none⟩ = some (.int .i64 dx.fuse) ∧ w'.cell? ⟨bX, 3, none⟩ = some (.bool dx.down) ∧ w'.cell? ⟨bA, 0, none⟩ = some (.slice Ax0 Am0 Ae0) ∧ w'.cell? ⟨bA, 1, none⟩ = some (.slice Ax1 Am1 Ae1) ∧ w'.cell? ⟨bA, 2, none⟩ = some (.int .i64 d.fuse) ∧ w'.cell? ⟨bA, 3, none⟩ = some (.bool d.down))) := ⟨fun w' hb => ⟨cell_below (cellsA f_0.out.box 0 rfl) hb, cell_below (cellsA f_0.out.box 1 rfl) hb, cell_below (cellsA f_0.out.box 2 rfl) hb, cell_below (cellsA f_0.out.box 3 rfl) hb, cell_below (cellsA x_0.out.box 0 rfl) hb, cell_below (cellsA x_0.out.box 1 rfl) hb, cell_below (cellsA x_0.out.box 2 rfl) hb, cell_below (cellsA x_0.out.box 3 rfl) hb, cell_below (cellsA a_0.out.box 0 rfl) hb, cell_below (cellsA a_0.out.box 1 rfl) hb, cell_below (cellsA a_0.out.box 2 rfl) hb, cell_below (cellsA a_0.out.box 3 rfl) hb⟩⟩
            refine wp_region_held_drew (S := fun w' => (w'.cell? ⟨bF, 0, none⟩ = some (.slice Fx0 Fm0 Fe0) ∧ w'.cell? ⟨bF, 1, none⟩ = some (.slice Fx1 Fm1 Fe1) ∧ w'.cell? ⟨bF, 2, none⟩ = some (.int .i64 df.fuse) ∧ w'.cell? ⟨bF, 3, none⟩ = some (.bool df.down) ∧ w'.cell? ⟨bX, 0, none⟩ = some (.slice (some ⟨xb, xo, none⟩) Xm0 Xe0) ∧ w'.cell? ⟨bX, 1, none⟩ = some (.slice (some ⟨xb1, xo1, none⟩) Xm1 Xe1) ∧ w'.cell? ⟨bX, 2, none⟩ = some (.int .i64 dx.fuse) ∧ w'.cell? ⟨bX, 3, none⟩ = some (.bool dx.down) ∧ w'.cell? ⟨bA, 0, none⟩ = some (.slice Ax0 Am0 Ae0) ∧ w'.cell? ⟨bA, 1, none⟩ = some (.slice Ax1 Am1 Ae1) ∧ w'.cell? ⟨bA, 2, none⟩ = some (.int .i64 d.fuse) ∧ w'.cell? ⟨bA, 3, none⟩ = some (.bool d.down))) (by kernel_rfl) (KK0.out _ (Below.refl _ wr).drew) (fun hHeld => ?_)
            have E0 : Hd (Below wr.heap.size wr wr.drew) := ⟨(Below.refl _ wr).drew⟩
            refine wpAnyH_take (i := 0) (oi := { dst := some 50, op := Op.load 27 (Operand.tmp 7), type := 27, pos := _, after := #[], guard := none }) (v := ?_) rfl (by kernel_rfl) (by kernel_rfl) (by kernel_rfl) (fun _ _ _ h => h) (Or.inl ⟨by rfl, ?_⟩) (by assumption) ?_
            rotate_left
            · intro w9 hSw
              try dsimp only at hSw
              go_simp
              try with_reducible rfl
            simp only [Act.put, List.setIfInBounds_toArray, List.set_cons_zero, List.set_cons_succ]
            refine wpAnyH_take (i := 1) (oi := { dst := some 51, op := Op.move (Operand.tmp 9), type := 3, pos := _, after := #[], guard := none }) (v := ?_) rfl (by kernel_rfl) (by kernel_rfl) (by kernel_rfl) (fun _ _ _ h => h) (Or.inl ⟨by rfl, ?_⟩) (by assumption) ?_
            rotate_left
            · intro w9 hSw
              try dsimp only at hSw
              go_simp
              try with_reducible rfl
            simp only [Act.put, List.setIfInBounds_toArray, List.set_cons_zero, List.set_cons_succ]
            refine wpAnyH_take (i := 4) (oi := { dst := some 54, op := Op.load 27 (Operand.tmp 6), type := 27, pos := _, after := #[], guard := none }) (v := ?_) rfl (by kernel_rfl) (by kernel_rfl) (by kernel_rfl) (fun _ _ _ h => h) (Or.inl ⟨by rfl, ?_⟩) (by assumption) ?_
            rotate_left
            · intro w9 hSw
              try dsimp only at hSw
              go_simp
              try with_reducible rfl
            simp only [Act.put, List.setIfInBounds_toArray, List.set_cons_zero, List.set_cons_succ]
            refine wpAnyH_take (i := 5) (oi := { dst := some 55, op := Op.move (Operand.tmp 9), type := 3, pos := _, after := #[], guard := none }) (v := ?_) rfl (by kernel_rfl) (by kernel_rfl) (by kernel_rfl) (fun _ _ _ h => h) (Or.inl ⟨by rfl, ?_⟩) (by assumption) ?_
            rotate_left
            · intro w9 hSw
              try dsimp only at hSw
              go_simp
              try with_reducible rfl
            simp only [Act.put, List.setIfInBounds_toArray, List.set_cons_zero, List.set_cons_succ]
            refine wpAnyH_ready (rs := [2]) (by kernel_rfl) (by simp) ?_
            refine AllReadyH.cons rfl (fun K hK => ?_) AllReadyH.nil
            clear hHeld
            rw [if_pos (by rfl)]
            go_wp2_with (go_at_call 11; (refine (implReadSec_ow _ df (k : Int) _ (f_0.out.below rdDev_ok E0.out).lo).mono ?_; rintro e q1 ⟨⟨ra0, rl0, rc0, rfl, GR, hER, _⟩, hb⟩))
            have HRB0 : Hd (RdB q1 [.slice ra0 rl0 rc0] (readD df (k : Int))) := ⟨owB_ok.rd hER⟩
            clear hER
            have E1 : Hd (Below wr.heap.size wr q1) := ⟨Below.next E0.out hb⟩
            have hS9 := KK0.out _ (E1.out)
            have hbx := hb
            clear hb
            have KK1 : Hd (∀ w', Below q1.heap.size q1 w' → ((w'.cell? ⟨bF, 0, none⟩ = some (.slice Fx0 Fm0 Fe0) ∧ w'.cell? ⟨bF, 1, none⟩ = some (.slice Fx1 Fm1 Fe1) ∧ w'.cell? ⟨bF, 2, none⟩ = some (.int .i64 df.fuse) ∧ w'.cell? ⟨bF, 3, none⟩ = some (.bool df.down) ∧ w'.cell? ⟨bX, 0, none⟩ = some (.slice (some ⟨xb, xo, none⟩) Xm0 Xe0) ∧ w'.cell? ⟨bX, 1, none⟩ = some (.slice (some ⟨xb1, xo1, none⟩) Xm1 Xe1) ∧ w'.cell? ⟨bX, 2, none⟩ = some (.int .i64 dx.fuse) ∧ w'.cell? ⟨bX, 3, none⟩ = some (.bool dx.down) ∧ w'.cell? ⟨bA, 0, none⟩ = some (.slice Ax0 Am0 Ae0) ∧ w'.cell? ⟨bA, 1, none⟩ = some (.slice Ax1 Am1 Ae1) ∧ w'.cell? ⟨bA, 2, none⟩ = some (.int .i64 d.fuse) ∧ w'.cell? ⟨bA, 3, none⟩ = some (.bool d.down)) ∧ (convert 22 9 (.slice ra0 rl0 rc0)).run Try.prog w' = .ok (.string SX) w')) := ⟨fun w' hb => ⟨KK0.out w' (Below.next E1.out hb), Reads.conv_eq (rdB_parts (rdB_ok.below HRB0.out hb)).2 rc0 (by rw [HE1.out]; exact HSX.out)⟩⟩
            refine hK.out _ _ hS9 (fun _ => ?_)
            clear hK K hS9
            have hHeld := KK1.out _ (Below.refl _ q1)
            refine wpAnyH_more (S' := fun w' => ((w'.cell? ⟨bF, 0, none⟩ = some (.slice Fx0 Fm0 Fe0) ∧ w'.cell? ⟨bF, 1, none⟩ = some (.slice Fx1 Fm1 Fe1) ∧ w'.cell? ⟨bF, 2, none⟩ = some (.int .i64 df.fuse) ∧ w'.cell? ⟨bF, 3, none⟩ = some (.bool df.down) ∧ w'.cell? ⟨bX, 0, none⟩ = some (.slice (some ⟨xb, xo, none⟩) Xm0 Xe0) ∧ w'.cell? ⟨bX, 1, none⟩ = some (.slice (some ⟨xb1, xo1, none⟩) Xm1 Xe1) ∧ w'.cell? ⟨bX, 2, none⟩ = some (.int .i64 dx.fuse) ∧ w'.cell? ⟨bX, 3, none⟩ = some (.bool dx.down) ∧ w'.cell? ⟨bA, 0, none⟩ = some (.slice Ax0 Am0 Ae0) ∧ w'.cell? ⟨bA, 1, none⟩ = some (.slice Ax1 Am1 Ae1) ∧ w'.cell? ⟨bA, 2, none⟩ = some (.int .i64 d.fuse) ∧ w'.cell? ⟨bA, 3, none⟩ = some (.bool d.down)) ∧ (convert 22 9 (.slice ra0 rl0 rc0)).run Try.prog w' = .ok (.string SX) w')) (fun w' h => h.1) _ _ _ _ ?_
            clear hbx KK0
            refine wpAnyH_take (i := 3) (oi := { dst := some 53, op := Op.convert 22 9 (Operand.tmp 52), type := 9, pos := _, after := #[{ on := 2, ground := Ground.data }], guard := none }) (v := ?_) rfl (by kernel_rfl) (by kernel_rfl) (by kernel_rfl) (fun _ _ _ h => h) (Or.inl ⟨by rfl, ?_⟩) (by assumption) ?_
            rotate_left
            · intro w9 hSw
              try dsimp only at hSw
              go_simp
              try with_reducible rfl
            simp only [Act.put, List.setIfInBounds_toArray, List.set_cons_zero, List.set_cons_succ]
            refine wpAnyH_ready (rs := [6]) (by kernel_rfl) (by simp) ?_
            refine AllReadyH.cons rfl (fun K hK => ?_) AllReadyH.nil
            clear hHeld
            rw [if_pos (by rfl)]
            go_wp2_with (go_at_call 11; (refine (implReadSec_ow _ dx (k : Int) _ (x_0.out.below rdDev_ok E1.out).lo).mono ?_; rintro e q2 ⟨⟨ra1, rl1, rc1, rfl, GR, hER, _⟩, hb⟩))
            have HRB1 : Hd (RdB q2 [.slice ra1 rl1 rc1] (readD dx (k : Int))) := ⟨owB_ok.rd hER⟩
            clear hER
            have E2 : Hd (Below wr.heap.size wr q2) := ⟨Below.next E1.out hb⟩
            have hS9 := KK1.out _ (hb)
            have hbx := hb
            clear hb
            have KK2 : Hd (∀ w', Below q2.heap.size q2 w' → (((w'.cell? ⟨bF, 0, none⟩ = some (.slice Fx0 Fm0 Fe0) ∧ w'.cell? ⟨bF, 1, none⟩ = some (.slice Fx1 Fm1 Fe1) ∧ w'.cell? ⟨bF, 2, none⟩ = some (.int .i64 df.fuse) ∧ w'.cell? ⟨bF, 3, none⟩ = some (.bool df.down) ∧ w'.cell? ⟨bX, 0, none⟩ = some (.slice (some ⟨xb, xo, none⟩) Xm0 Xe0) ∧ w'.cell? ⟨bX, 1, none⟩ = some (.slice (some ⟨xb1, xo1, none⟩) Xm1 Xe1) ∧ w'.cell? ⟨bX, 2, none⟩ = some (.int .i64 dx.fuse) ∧ w'.cell? ⟨bX, 3, none⟩ = some (.bool dx.down) ∧ w'.cell? ⟨bA, 0, none⟩ = some (.slice Ax0 Am0 Ae0) ∧ w'.cell? ⟨bA, 1, none⟩ = some (.slice Ax1 Am1 Ae1) ∧ w'.cell? ⟨bA, 2, none⟩ = some (.int .i64 d.fuse) ∧ w'.cell? ⟨bA, 3, none⟩ = some (.bool d.down)) ∧ (convert 22 9 (.slice ra0 rl0 rc0)).run Try.prog w' = .ok (.string SX) w') ∧ (convert 22 9 (.slice ra1 rl1 rc1)).run Try.prog w' = .ok (.string SX) w')) := ⟨fun w' hb => ⟨KK1.out w' (Below.next hbx hb), Reads.conv_eq (rdB_parts (rdB_ok.below HRB1.out hb)).2 rc1 (HSX.out)⟩⟩
            refine hK.out _ _ hS9 (fun _ => ?_)
            clear hK K hS9
            have hHeld := KK2.out _ (Below.refl _ q2)
            refine wpAnyH_more (S' := fun w' => (((w'.cell? ⟨bF, 0, none⟩ = some (.slice Fx0 Fm0 Fe0) ∧ w'.cell? ⟨bF, 1, none⟩ = some (.slice Fx1 Fm1 Fe1) ∧ w'.cell? ⟨bF, 2, none⟩ = some (.int .i64 df.fuse) ∧ w'.cell? ⟨bF, 3, none⟩ = some (.bool df.down) ∧ w'.cell? ⟨bX, 0, none⟩ = some (.slice (some ⟨xb, xo, none⟩) Xm0 Xe0) ∧ w'.cell? ⟨bX, 1, none⟩ = some (.slice (some ⟨xb1, xo1, none⟩) Xm1 Xe1) ∧ w'.cell? ⟨bX, 2, none⟩ = some (.int .i64 dx.fuse) ∧ w'.cell? ⟨bX, 3, none⟩ = some (.bool dx.down) ∧ w'.cell? ⟨bA, 0, none⟩ = some (.slice Ax0 Am0 Ae0) ∧ w'.cell? ⟨bA, 1, none⟩ = some (.slice Ax1 Am1 Ae1) ∧ w'.cell? ⟨bA, 2, none⟩ = some (.int .i64 d.fuse) ∧ w'.cell? ⟨bA, 3, none⟩ = some (.bool d.down)) ∧ (convert 22 9 (.slice ra0 rl0 rc0)).run Try.prog w' = .ok (.string SX) w') ∧ (convert 22 9 (.slice ra1 rl1 rc1)).run Try.prog w' = .ok (.string SX) w')) (fun w' h => h.1) _ _ _ _ ?_
            clear hbx KK1
            refine wpAnyH_take (i := 7) (oi := { dst := some 57, op := Op.convert 22 9 (Operand.tmp 56), type := 9, pos := _, after := #[{ on := 6, ground := Ground.data }], guard := none }) (v := ?_) rfl (by kernel_rfl) (by kernel_rfl) (by kernel_rfl) (fun _ _ _ h => h) (Or.inl ⟨by rfl, ?_⟩) (by assumption) ?_
            rotate_left
            · intro w9 hSw
              try dsimp only at hSw
              go_simp
              try with_reducible rfl
            simp only [Act.put, List.setIfInBounds_toArray, List.set_cons_zero, List.set_cons_succ]
            refine wpAnyH_take (i := 8) (oi := { dst := some 58, op := Op.binOp BinOp.neq 9 (Operand.tmp 53) (Operand.tmp 57) 9, type := 4, pos := _, after := #[{ on := 3, ground := Ground.data }, { on := 7, ground := Ground.data }], guard := none }) (v := ?_) rfl (by kernel_rfl) (by kernel_rfl) (by kernel_rfl) (fun _ _ _ h => h) (Or.inl ⟨by rfl, ?_⟩) (by assumption) ?_
            rotate_left
            · intro w9 hSw
              try dsimp only at hSw
              go_simp
              try with_reducible rfl
            simp only [Act.put, List.setIfInBounds_toArray, List.set_cons_zero, List.set_cons_succ]
            refine wpAnyH_take (i := 9) (oi := { dst := some 59, op := Op.move (Operand.tmp 58), type := 4, pos := _, after := #[{ on := 8, ground := Ground.data }, { on := 6, ground := Ground.chain }], guard := none }) (v := ?_) rfl (by kernel_rfl) (by kernel_rfl) (by kernel_rfl) (fun _ _ _ h => h) (Or.inl ⟨by rfl, ?_⟩) (by assumption) ?_
            rotate_left
            · intro w9 hSw
              try dsimp only at hSw
              go_simp
              try with_reducible rfl
            simp only [Act.put, List.setIfInBounds_toArray, List.set_cons_zero, List.set_cons_succ]
            refine wpAnyH_take (i := 10) (oi := { dst := some 60, op := Op.move (Operand.tmp 9), type := 3, pos := _, after := #[{ on := 9, ground := Ground.guard }], guard := some (9, false) }) (v := ?_) rfl (by kernel_rfl) (by kernel_rfl) (by kernel_rfl) (fun _ _ _ h => h) (Or.inl ⟨by rfl, ?_⟩) (by assumption) ?_
            rotate_left
            · intro w9 hSw
              try dsimp only at hSw
              go_simp
              try with_reducible rfl
            simp only [Act.put, List.setIfInBounds_toArray, List.set_cons_zero, List.set_cons_succ]
            refine wpAnyH_take (i := 11) (oi := { dst := some 61, op := Op.move (Operand.tmp 4), type := 3, pos := _, after := #[{ on := 9, ground := Ground.guard }], guard := some (9, false) }) (v := ?_) rfl (by kernel_rfl) (by kernel_rfl) (by kernel_rfl) (fun _ _ _ h => h) (Or.inl ⟨by rfl, ?_⟩) (by assumption) ?_
            rotate_left
            · intro w9 hSw
              try dsimp only at hSw
              go_simp
              try with_reducible rfl
            simp only [Act.put, List.setIfInBounds_toArray, List.set_cons_zero, List.set_cons_succ]
            refine wpAnyH_take (i := 12) (oi := { dst := some 62, op := Op.binOp BinOp.neq 3 (Operand.tmp 60) (Operand.tmp 61) 3, type := 4, pos := _, after := #[{ on := 10, ground := Ground.data }, { on := 11, ground := Ground.data }, { on := 9, ground := Ground.guard }], guard := some (9, false) }) (v := ?_) rfl (by kernel_rfl) (by kernel_rfl) (by kernel_rfl) (fun _ _ _ h => h) (Or.inl ⟨by rfl, ?_⟩) (by assumption) ?_
            rotate_left
            · intro w9 hSw
              try dsimp only at hSw
              go_simp
              try with_reducible rfl
            simp only [Act.put, List.setIfInBounds_toArray, List.set_cons_zero, List.set_cons_succ]
            refine wpAnyH_take (i := 13) (oi := { dst := some 63, op := Op.move (Operand.tmp 62), type := 4, pos := _, after := #[{ on := 12, ground := Ground.data }, { on := 9, ground := Ground.chain }, { on := 9, ground := Ground.guard }], guard := some (9, false) }) (v := ?_) rfl (by kernel_rfl) (by kernel_rfl) (by kernel_rfl) (fun _ _ _ h => h) (Or.inl ⟨by rfl, ?_⟩) (by assumption) ?_
            rotate_left
            · intro w9 hSw
              try dsimp only at hSw
              go_simp
              try with_reducible rfl
            simp only [Act.put, List.setIfInBounds_toArray, List.set_cons_zero, List.set_cons_succ]
            refine wpAnyH_take (i := 14) (oi := { dst := some 64, op := Op.load 27 (Operand.tmp 6), type := 27, pos := _, after := #[{ on := 13, ground := Ground.guard }], guard := some (13, true) }) (v := ?_) rfl (by kernel_rfl) (by kernel_rfl) (by kernel_rfl) (fun _ _ _ h => h) (Or.inl ⟨by rfl, ?_⟩) (by assumption) ?_
            rotate_left
            · intro w9 hSw
              try dsimp only at hSw
              go_simp
              try with_reducible rfl
            simp only [Act.put, List.setIfInBounds_toArray, List.set_cons_zero, List.set_cons_succ]
            refine wpAnyH_take (i := 15) (oi := { dst := some 65, op := Op.move (Operand.tmp 9), type := 3, pos := _, after := #[{ on := 13, ground := Ground.guard }], guard := some (13, true) }) (v := ?_) rfl (by kernel_rfl) (by kernel_rfl) (by kernel_rfl) (fun _ _ _ h => h) (Or.inl ⟨by rfl, ?_⟩) (by assumption) ?_
            rotate_left
            · intro w9 hSw
              try dsimp only at hSw
              go_simp
              try with_reducible rfl
            simp only [Act.put, List.setIfInBounds_toArray, List.set_cons_zero, List.set_cons_succ]
            refine wpAnyH_take (i := 18) (oi := { dst := some 68, op := Op.load 27 (Operand.tmp 3), type := 27, pos := _, after := #[{ on := 13, ground := Ground.guard }], guard := some (13, true) }) (v := ?_) rfl (by kernel_rfl) (by kernel_rfl) (by kernel_rfl) (fun _ _ _ h => h) (Or.inl ⟨by rfl, ?_⟩) (by assumption) ?_
            rotate_left
            · intro w9 hSw
              try dsimp only at hSw
              go_simp
              try with_reducible rfl
            simp only [Act.put, List.setIfInBounds_toArray, List.set_cons_zero, List.set_cons_succ]
            refine wpAnyH_take (i := 19) (oi := { dst := some 69, op := Op.move (Operand.tmp 9), type := 3, pos := _, after := #[{ on := 13, ground := Ground.guard }], guard := some (13, true) }) (v := ?_) rfl (by kernel_rfl) (by kernel_rfl) (by kernel_rfl) (fun _ _ _ h => h) (Or.inl ⟨by rfl, ?_⟩) (by assumption) ?_
            rotate_left
            · intro w9 hSw
              try dsimp only at hSw
              go_simp
              try with_reducible rfl
            simp only [Act.put, List.setIfInBounds_toArray, List.set_cons_zero, List.set_cons_succ]
            refine wpAnyH_ready (rs := [16]) (by kernel_rfl) (by simp) ?_
            refine AllReadyH.cons rfl (fun K hK => ?_) AllReadyH.nil
            clear hHeld
            rw [if_pos (by rfl)]
            go_wp2_with (go_at_call 11; (refine (implReadSec_ow _ dx (k : Int) _ (x_0.out.below rdDev_ok E2.out).lo).mono ?_; rintro e q3 ⟨⟨ra2, rl2, rc2, rfl, GR, hER, _⟩, hb⟩))
            have HRB2 : Hd (RdB q3 [.slice ra2 rl2 rc2] (readD dx (k : Int))) := ⟨owB_ok.rd hER⟩
            clear hER
            have E3 : Hd (Below wr.heap.size wr q3) := ⟨Below.next E2.out hb⟩
            have hS9 := KK2.out _ (hb)
            have hbx := hb
            clear hb
            have KK3 : Hd (∀ w', Below q3.heap.size q3 w' → ((((w'.cell? ⟨bF, 0, none⟩ = some (.slice Fx0 Fm0 Fe0) ∧ w'.cell? ⟨bF, 1, none⟩ = some (.slice Fx1 Fm1 Fe1) ∧ w'.cell? ⟨bF, 2, none⟩ = some (.int .i64 df.fuse) ∧ w'.cell? ⟨bF, 3, none⟩ = some (.bool df.down) ∧ w'.cell? ⟨bX, 0, none⟩ = some (.slice (some ⟨xb, xo, none⟩) Xm0 Xe0) ∧ w'.cell? ⟨bX, 1, none⟩ = some (.slice (some ⟨xb1, xo1, none⟩) Xm1 Xe1) ∧ w'.cell? ⟨bX, 2, none⟩ = some (.int .i64 dx.fuse) ∧ w'.cell? ⟨bX, 3, none⟩ = some (.bool dx.down) ∧ w'.cell? ⟨bA, 0, none⟩ = some (.slice Ax0 Am0 Ae0) ∧ w'.cell? ⟨bA, 1, none⟩ = some (.slice Ax1 Am1 Ae1) ∧ w'.cell? ⟨bA, 2, none⟩ = some (.int .i64 d.fuse) ∧ w'.cell? ⟨bA, 3, none⟩ = some (.bool d.down)) ∧ (convert 22 9 (.slice ra0 rl0 rc0)).run Try.prog w' = .ok (.string SX) w') ∧ (convert 22 9 (.slice ra1 rl1 rc1)).run Try.prog w' = .ok (.string SX) w') ∧ (convert 22 9 (.slice ra2 rl2 rc2)).run Try.prog w' = .ok (.string SX) w')) := ⟨fun w' hb => ⟨KK2.out w' (Below.next hbx hb), Reads.conv_eq (rdB_parts (rdB_ok.below HRB2.out hb)).2 rc2 (HSX.out)⟩⟩
            refine hK.out _ _ hS9 (fun _ => ?_)
            clear hK K hS9
            have hHeld := KK3.out _ (Below.refl _ q3)
            refine wpAnyH_more (S' := fun w' => ((((w'.cell? ⟨bF, 0, none⟩ = some (.slice Fx0 Fm0 Fe0) ∧ w'.cell? ⟨bF, 1, none⟩ = some (.slice Fx1 Fm1 Fe1) ∧ w'.cell? ⟨bF, 2, none⟩ = some (.int .i64 df.fuse) ∧ w'.cell? ⟨bF, 3, none⟩ = some (.bool df.down) ∧ w'.cell? ⟨bX, 0, none⟩ = some (.slice (some ⟨xb, xo, none⟩) Xm0 Xe0) ∧ w'.cell? ⟨bX, 1, none⟩ = some (.slice (some ⟨xb1, xo1, none⟩) Xm1 Xe1) ∧ w'.cell? ⟨bX, 2, none⟩ = some (.int .i64 dx.fuse) ∧ w'.cell? ⟨bX, 3, none⟩ = some (.bool dx.down) ∧ w'.cell? ⟨bA, 0, none⟩ = some (.slice Ax0 Am0 Ae0) ∧ w'.cell? ⟨bA, 1, none⟩ = some (.slice Ax1 Am1 Ae1) ∧ w'.cell? ⟨bA, 2, none⟩ = some (.int .i64 d.fuse) ∧ w'.cell? ⟨bA, 3, none⟩ = some (.bool d.down)) ∧ (convert 22 9 (.slice ra0 rl0 rc0)).run Try.prog w' = .ok (.string SX) w') ∧ (convert 22 9 (.slice ra1 rl1 rc1)).run Try.prog w' = .ok (.string SX) w') ∧ (convert 22 9 (.slice ra2 rl2 rc2)).run Try.prog w' = .ok (.string SX) w')) (fun w' h => h.1) _ _ _ _ ?_
            clear hbx KK2
            refine wpAnyH_take (i := 17) (oi := { dst := some 67, op := Op.convert 22 9 (Operand.tmp 66), type := 9, pos := _, after := #[{ on := 16, ground := Ground.data }, { on := 13, ground := Ground.guard }], guard := some (13, true) }) (v := ?_) rfl (by kernel_rfl) (by kernel_rfl) (by kernel_rfl) (fun _ _ _ h => h) (Or.inl ⟨by rfl, ?_⟩) (by assumption) ?_
            rotate_left
            · intro w9 hSw
              try dsimp only at hSw
              go_simp
              try with_reducible rfl
            simp only [Act.put, List.setIfInBounds_toArray, List.set_cons_zero, List.set_cons_succ]
            refine wpAnyH_ready (rs := [20]) (by kernel_rfl) (by simp) ?_
            refine AllReadyH.cons rfl (fun K hK => ?_) AllReadyH.nil
            clear hHeld
            rw [if_pos (by rfl)]
            go_wp2_with (go_at_call 11; (refine (implReadSec_ow _ d (k : Int) _ (a_0.out.below rdDev_ok E3.out).lo).mono ?_; rintro e q4 ⟨⟨ra3, rl3, rc3, rfl, GR, hER, _⟩, hb⟩))
            have HRB3 : Hd (RdB q4 [.slice ra3 rl3 rc3] (readD d (k : Int))) := ⟨owB_ok.rd hER⟩
            clear hER
            have E4 : Hd (Below wr.heap.size wr q4) := ⟨Below.next E3.out hb⟩
            have hS9 := KK3.out _ (hb)
            have hbx := hb
            clear hb
            have KK4 : Hd (∀ w', Below q4.heap.size q4 w' → (((((w'.cell? ⟨bF, 0, none⟩ = some (.slice Fx0 Fm0 Fe0) ∧ w'.cell? ⟨bF, 1, none⟩ = some (.slice Fx1 Fm1 Fe1) ∧ w'.cell? ⟨bF, 2, none⟩ = some (.int .i64 df.fuse) ∧ w'.cell? ⟨bF, 3, none⟩ = some (.bool df.down) ∧ w'.cell? ⟨bX, 0, none⟩ = some (.slice (some ⟨xb, xo, none⟩) Xm0 Xe0) ∧ w'.cell? ⟨bX, 1, none⟩ = some (.slice (some ⟨xb1, xo1, none⟩) Xm1 Xe1) ∧ w'.cell? ⟨bX, 2, none⟩ = some (.int .i64 dx.fuse) ∧ w'.cell? ⟨bX, 3, none⟩ = some (.bool dx.down) ∧ w'.cell? ⟨bA, 0, none⟩ = some (.slice Ax0 Am0 Ae0) ∧ w'.cell? ⟨bA, 1, none⟩ = some (.slice Ax1 Am1 Ae1) ∧ w'.cell? ⟨bA, 2, none⟩ = some (.int .i64 d.fuse) ∧ w'.cell? ⟨bA, 3, none⟩ = some (.bool d.down)) ∧ (convert 22 9 (.slice ra0 rl0 rc0)).run Try.prog w' = .ok (.string SX) w') ∧ (convert 22 9 (.slice ra1 rl1 rc1)).run Try.prog w' = .ok (.string SX) w') ∧ (convert 22 9 (.slice ra2 rl2 rc2)).run Try.prog w' = .ok (.string SX) w') ∧ (convert 22 9 (.slice ra3 rl3 rc3)).run Try.prog w' = .ok (.string SX) w')) := ⟨fun w' hb => ⟨KK3.out w' (Below.next hbx hb), Reads.conv_eq (rdB_parts (rdB_ok.below HRB3.out hb)).2 rc3 (by rw [← HE2.out]; exact HSX.out)⟩⟩
            refine hK.out _ _ hS9 (fun _ => ?_)
            clear hK K hS9
            have hHeld := KK4.out _ (Below.refl _ q4)
            refine wpAnyH_more (S' := fun w' => (((((w'.cell? ⟨bF, 0, none⟩ = some (.slice Fx0 Fm0 Fe0) ∧ w'.cell? ⟨bF, 1, none⟩ = some (.slice Fx1 Fm1 Fe1) ∧ w'.cell? ⟨bF, 2, none⟩ = some (.int .i64 df.fuse) ∧ w'.cell? ⟨bF, 3, none⟩ = some (.bool df.down) ∧ w'.cell? ⟨bX, 0, none⟩ = some (.slice (some ⟨xb, xo, none⟩) Xm0 Xe0) ∧ w'.cell? ⟨bX, 1, none⟩ = some (.slice (some ⟨xb1, xo1, none⟩) Xm1 Xe1) ∧ w'.cell? ⟨bX, 2, none⟩ = some (.int .i64 dx.fuse) ∧ w'.cell? ⟨bX, 3, none⟩ = some (.bool dx.down) ∧ w'.cell? ⟨bA, 0, none⟩ = some (.slice Ax0 Am0 Ae0) ∧ w'.cell? ⟨bA, 1, none⟩ = some (.slice Ax1 Am1 Ae1) ∧ w'.cell? ⟨bA, 2, none⟩ = some (.int .i64 d.fuse) ∧ w'.cell? ⟨bA, 3, none⟩ = some (.bool d.down)) ∧ (convert 22 9 (.slice ra0 rl0 rc0)).run Try.prog w' = .ok (.string SX) w') ∧ (convert 22 9 (.slice ra1 rl1 rc1)).run Try.prog w' = .ok (.string SX) w') ∧ (convert 22 9 (.slice ra2 rl2 rc2)).run Try.prog w' = .ok (.string SX) w') ∧ (convert 22 9 (.slice ra3 rl3 rc3)).run Try.prog w' = .ok (.string SX) w')) (fun w' h => h.1) _ _ _ _ ?_
            clear hbx KK3
            refine wpAnyH_take (i := 21) (oi := { dst := some 71, op := Op.convert 22 9 (Operand.tmp 70), type := 9, pos := _, after := #[{ on := 20, ground := Ground.data }, { on := 13, ground := Ground.guard }], guard := some (13, true) }) (v := ?_) rfl (by kernel_rfl) (by kernel_rfl) (by kernel_rfl) (fun _ _ _ h => h) (Or.inl ⟨by rfl, ?_⟩) (by assumption) ?_
            rotate_left
            · intro w9 hSw
              try dsimp only at hSw
              go_simp
              try with_reducible rfl
            simp only [Act.put, List.setIfInBounds_toArray, List.set_cons_zero, List.set_cons_succ]
            refine wpAnyH_take (i := 22) (oi := { dst := some 72, op := Op.binOp BinOp.neq 9 (Operand.tmp 67) (Operand.tmp 71) 9, type := 4, pos := _, after := #[{ on := 17, ground := Ground.data }, { on := 21, ground := Ground.data }, { on := 13, ground := Ground.guard }], guard := some (13, true) }) (v := ?_) rfl (by kernel_rfl) (by kernel_rfl) (by kernel_rfl) (fun _ _ _ h => h) (Or.inl ⟨by rfl, ?_⟩) (by assumption) ?_
            rotate_left
            · intro w9 hSw
              try dsimp only at hSw
              go_simp
              try with_reducible rfl
            simp only [Act.put, List.setIfInBounds_toArray, List.set_cons_zero, List.set_cons_succ]
            refine wpAnyH_take (i := 23) (oi := { dst := some 73, op := Op.pick (Operand.tmp 63) (Operand.tmp 72) (Operand.const (Value.bool false)), type := 4, pos := _, after := #[{ on := 13, ground := Ground.data }, { on := 22, ground := Ground.data }, { on := 9, ground := Ground.guard }], guard := some (9, false) }) (v := ?_) rfl (by kernel_rfl) (by kernel_rfl) (by kernel_rfl) (fun _ _ _ h => h) (Or.inl ⟨by rfl, ?_⟩) (by assumption) ?_
            rotate_left
            · intro w9 hSw
              try dsimp only at hSw
              go_simp
              try with_reducible rfl
            simp only [Act.put, List.setIfInBounds_toArray, List.set_cons_zero, List.set_cons_succ]
            refine wpAnyH_take (i := 24) (oi := { dst := some 74, op := Op.pick (Operand.tmp 59) (Operand.const (Value.bool true)) (Operand.tmp 73), type := 4, pos := _, after := #[{ on := 9, ground := Ground.data }, { on := 23, ground := Ground.data }], guard := none }) (v := ?_) rfl (by kernel_rfl) (by kernel_rfl) (by kernel_rfl) (fun _ _ _ h => h) (Or.inl ⟨by rfl, ?_⟩) (by assumption) ?_
            rotate_left
            · intro w9 hSw
              try dsimp only at hSw
              go_simp
              try with_reducible rfl
            simp only [Act.put, List.setIfInBounds_toArray, List.set_cons_zero, List.set_cons_succ]
            refine wpAnyH_done (by kernel_rfl) ?_ _
            clear hHeld KK4
            go_wp2_with fail
            go_meet
            exact ⟨rfl, ⟨E4.out⟩⟩
        case rest =>
          obtain ⟨rfl, HB2⟩ := hcut
          have a_1 : Hd (BR 27 RdDev bA [.slice Ax0 Am0 Ae0, .slice Ax1 Am1 Ae1, .int .i64 d.fuse, .bool d.down] (d) wc) := ⟨a_0.out.below rdDev_ok HB2.out⟩
          have x_1 : Hd (BR 27 RdDev bX [.slice (some ⟨xb, xo, none⟩) Xm0 Xe0, .slice (some ⟨xb1, xo1, none⟩) Xm1 Xe1, .int .i64 dx.fuse, .bool dx.down] (dx) wc) := ⟨x_0.out.below rdDev_ok HB2.out⟩
          have f_1 : Hd (BR 27 RdDev bF [.slice Fx0 Fm0 Fe0, .slice Fx1 Fm1 Fe1, .int .i64 df.fuse, .bool df.down] (df) wc) := ⟨f_0.out.below rdDev_ok HB2.out⟩
          have z_1 : Hd (BR 27 RdDev bZ [.slice (some ⟨zb, zo, none⟩) Zm0 Ze0, .slice Zx1 Zm1 Ze1, .int .i64 dz.fuse, .bool dz.down] (dz) wc) := ⟨z_0.out.below rdDev_ok HB2.out⟩
          go_wp2_with fail
          have hx40 : Xm1 ≤ 40 := by have := HLen.out; omega
          have hA7 : Am0 ≤ 7 := HM.out.2.2
          have BQ : Hd (Below wt.heap.size wt wc) := ⟨Below.next HBL.out HB2.out⟩
          obtain ⟨sx, hsx⟩ := get_some (l := dx.secs) (j := k) (by have := HLen.out; omega)
          obtain ⟨sz, hsz⟩ := get_some (l := dz.secs) (j := k) (by have := HLen.out; omega)
          obtain ⟨pa, pn, pc, hpr, hpc⟩ := HGX.out k sx hsx
          obtain ⟨ra, rn, rc, hrr, hrc⟩ := HGZ.out k sz hsz
          have HPX : Hd (RdB wc [.slice pa pn pc] sx) := ⟨rdB_ok.below hpr BQ.out⟩
          have HPZ : Hd (RdB wc [.slice ra rn rc] sz) := ⟨rdB_ok.below hrr BQ.out⟩
          have HTX : Hd (wc.cell? ⟨xb, xo + k, none⟩ = some (.slice pa pn pc) ∧ wc.cell? ⟨zb, zo + k, none⟩ = some (.slice ra rn rc)) := ⟨cell_below hpc BQ.out, cell_below hrc BQ.out⟩
          obtain ⟨S1, hS1⟩ : ∃ S, strB sx = S := ⟨_, rfl⟩
          obtain ⟨S2, hS2⟩ : ∃ S, strB sz = S := ⟨_, rfl⟩
          have HS12 : Hd (strB sx = S1 ∧ strB sz = S2) := ⟨hS1, hS2⟩
          have HMay : Hd (mayB S2 (S2.toList == S1.toList) (k : Int) dx.cache dx.cache.length = true) := ⟨by
            obtain ⟨kp, hkp⟩ := HZk.out
            rw [hkp] at hsz
            rw [← hS1, ← hS2]
            exact mayB_all HXo.out hsx hsz⟩
          have hzl : (k : Int) < (Zm0 : Int) := by have := HLen.out; omega
          have hxl : (k : Int) < (Xm0 : Int) := by have := HLen.out; omega
          clear hsx hsz hpr hpc hrr hrc hS1 hS2
          have KK0 : Hd (∀ w', Below wc.heap.size wc w' → (w'.cell? ⟨bZ, 0, none⟩ = some (.slice (some ⟨zb, zo, none⟩) Zm0 Ze0) ∧ w'.cell? ⟨bX, 0, none⟩ = some (.slice (some ⟨xb, xo, none⟩) Xm0 Xe0) ∧ w'.cell? ⟨xb, xo + k, none⟩ = some (.slice pa pn pc) ∧ w'.cell? ⟨zb, zo + k, none⟩ = some (.slice ra rn rc) ∧ (convert 22 9 (.slice pa pn pc)).run Try.prog w' = .ok (.string S1) w' ∧ (convert 22 9 (.slice ra rn rc)).run Try.prog w' = .ok (.string S2) w')) := ⟨fun w' hb => ⟨cell_below (cellsA z_1.out.box 0 rfl) hb, cell_below (cellsA x_1.out.box 0 rfl) hb, cell_below HTX.out.1 hb, cell_below HTX.out.2 hb, Reads.conv_eq (rdB_parts (rdB_ok.below HPX.out hb)).2 pc HS12.out.1, Reads.conv_eq (rdB_parts (rdB_ok.below HPZ.out hb)).2 rc HS12.out.2⟩⟩
          refine wp_region_held_drew (S := fun w' => (w'.cell? ⟨bZ, 0, none⟩ = some (.slice (some ⟨zb, zo, none⟩) Zm0 Ze0) ∧ w'.cell? ⟨bX, 0, none⟩ = some (.slice (some ⟨xb, xo, none⟩) Xm0 Xe0) ∧ w'.cell? ⟨xb, xo + k, none⟩ = some (.slice pa pn pc) ∧ w'.cell? ⟨zb, zo + k, none⟩ = some (.slice ra rn rc) ∧ (convert 22 9 (.slice pa pn pc)).run Try.prog w' = .ok (.string S1) w' ∧ (convert 22 9 (.slice ra rn rc)).run Try.prog w' = .ok (.string S2) w')) (by kernel_rfl) (KK0.out _ (Below.refl _ wc).drew) (fun hHeld => ?_)
          have E0 : Hd (Below wc.heap.size wc wc.drew) := ⟨(Below.refl _ wc).drew⟩
          refine wpAnyH_take (i := 0) (oi := { dst := some 75, op := Op.fieldAddr 27 (Operand.tmp 8) 0, type := 0, pos := _, after := #[], guard := none }) (v := ?_) rfl (by kernel_rfl) (by kernel_rfl) (by kernel_rfl) (fun _ _ _ h => h) (Or.inl ⟨by rfl, ?_⟩) (by assumption) ?_
          rotate_left
          · intro w9 hSw
            try dsimp only at hSw
            go_simp
            try with_reducible rfl
          simp only [Act.put, List.setIfInBounds_toArray, List.set_cons_zero, List.set_cons_succ]
          refine wpAnyH_take (i := 1) (oi := { dst := some 76, op := Op.load 24 (Operand.tmp 75), type := 24, pos := _, after := #[{ on := 0, ground := Ground.data }], guard := none }) (v := ?_) rfl (by kernel_rfl) (by kernel_rfl) (by kernel_rfl) (fun _ _ _ h => h) (Or.inl ⟨by rfl, ?_⟩) (by assumption) ?_
          rotate_left
          · intro w9 hSw
            try dsimp only at hSw
            go_simp
            try with_reducible rfl
          simp only [Act.put, List.setIfInBounds_toArray, List.set_cons_zero, List.set_cons_succ]
          refine wpAnyH_take (i := 2) (oi := { dst := some 77, op := Op.move (Operand.tmp 9), type := 3, pos := _, after := #[], guard := none }) (v := ?_) rfl (by kernel_rfl) (by kernel_rfl) (by kernel_rfl) (fun _ _ _ h => h) (Or.inl ⟨by rfl, ?_⟩) (by assumption) ?_
          rotate_left
          · intro w9 hSw
            try dsimp only at hSw
            go_simp
            try with_reducible rfl
          simp only [Act.put, List.setIfInBounds_toArray, List.set_cons_zero, List.set_cons_succ]
          refine wpAnyH_take (i := 3) (oi := { dst := some 78, op := Op.indexAddr 24 (Operand.tmp 76) (Operand.tmp 77), type := 0, pos := _, after := #[{ on := 1, ground := Ground.data }, { on := 2, ground := Ground.data }], guard := none }) (v := ?_) rfl (by kernel_rfl) (by kernel_rfl) (by kernel_rfl) (fun _ _ _ h => h) (Or.inl ⟨by rfl, ?_⟩) (by assumption) ?_
          rotate_left
          · intro w9 hSw
            try dsimp only at hSw
            go_simp
            try with_reducible rfl
          simp only [Act.put, List.setIfInBounds_toArray, List.set_cons_zero, List.set_cons_succ]
          refine wpAnyH_take (i := 4) (oi := { dst := some 79, op := Op.load 22 (Operand.tmp 78), type := 22, pos := _, after := #[{ on := 3, ground := Ground.data }], guard := none }) (v := ?_) rfl (by kernel_rfl) (by kernel_rfl) (by kernel_rfl) (fun _ _ _ h => h) (Or.inl ⟨by rfl, ?_⟩) (by assumption) ?_
          rotate_left
          · intro w9 hSw
            try dsimp only at hSw
            go_simp
            try with_reducible rfl
          simp only [Act.put, List.setIfInBounds_toArray, List.set_cons_zero, List.set_cons_succ]
          refine wpAnyH_take (i := 5) (oi := { dst := some 80, op := Op.convert 22 9 (Operand.tmp 79), type := 9, pos := _, after := #[{ on := 4, ground := Ground.data }], guard := none }) (v := ?_) rfl (by kernel_rfl) (by kernel_rfl) (by kernel_rfl) (fun _ _ _ h => h) (Or.inl ⟨by rfl, ?_⟩) (by assumption) ?_
          rotate_left
          · intro w9 hSw
            try dsimp only at hSw
            go_simp
            try with_reducible rfl
          simp only [Act.put, List.setIfInBounds_toArray, List.set_cons_zero, List.set_cons_succ]
          refine wpAnyH_take (i := 6) (oi := { dst := some 81, op := Op.fieldAddr 27 (Operand.tmp 6) 0, type := 0, pos := _, after := #[], guard := none }) (v := ?_) rfl (by kernel_rfl) (by kernel_rfl) (by kernel_rfl) (fun _ _ _ h => h) (Or.inl ⟨by rfl, ?_⟩) (by assumption) ?_
          rotate_left
          · intro w9 hSw
            try dsimp only at hSw
            go_simp
            try with_reducible rfl
          simp only [Act.put, List.setIfInBounds_toArray, List.set_cons_zero, List.set_cons_succ]
          refine wpAnyH_take (i := 7) (oi := { dst := some 82, op := Op.load 24 (Operand.tmp 81), type := 24, pos := _, after := #[{ on := 6, ground := Ground.data }], guard := none }) (v := ?_) rfl (by kernel_rfl) (by kernel_rfl) (by kernel_rfl) (fun _ _ _ h => h) (Or.inl ⟨by rfl, ?_⟩) (by assumption) ?_
          rotate_left
          · intro w9 hSw
            try dsimp only at hSw
            go_simp
            try with_reducible rfl
          simp only [Act.put, List.setIfInBounds_toArray, List.set_cons_zero, List.set_cons_succ]
          refine wpAnyH_take (i := 8) (oi := { dst := some 83, op := Op.move (Operand.tmp 9), type := 3, pos := _, after := #[], guard := none }) (v := ?_) rfl (by kernel_rfl) (by kernel_rfl) (by kernel_rfl) (fun _ _ _ h => h) (Or.inl ⟨by rfl, ?_⟩) (by assumption) ?_
          rotate_left
          · intro w9 hSw
            try dsimp only at hSw
            go_simp
            try with_reducible rfl
          simp only [Act.put, List.setIfInBounds_toArray, List.set_cons_zero, List.set_cons_succ]
          refine wpAnyH_take (i := 9) (oi := { dst := some 84, op := Op.indexAddr 24 (Operand.tmp 82) (Operand.tmp 83), type := 0, pos := _, after := #[{ on := 7, ground := Ground.data }, { on := 8, ground := Ground.data }], guard := none }) (v := ?_) rfl (by kernel_rfl) (by kernel_rfl) (by kernel_rfl) (fun _ _ _ h => h) (Or.inl ⟨by rfl, ?_⟩) (by assumption) ?_
          rotate_left
          · intro w9 hSw
            try dsimp only at hSw
            go_simp
            try with_reducible rfl
          simp only [Act.put, List.setIfInBounds_toArray, List.set_cons_zero, List.set_cons_succ]
          refine wpAnyH_take (i := 10) (oi := { dst := some 85, op := Op.load 22 (Operand.tmp 84), type := 22, pos := _, after := #[{ on := 9, ground := Ground.data }], guard := none }) (v := ?_) rfl (by kernel_rfl) (by kernel_rfl) (by kernel_rfl) (fun _ _ _ h => h) (Or.inl ⟨by rfl, ?_⟩) (by assumption) ?_
          rotate_left
          · intro w9 hSw
            try dsimp only at hSw
            go_simp
            try with_reducible rfl
          simp only [Act.put, List.setIfInBounds_toArray, List.set_cons_zero, List.set_cons_succ]
          refine wpAnyH_take (i := 11) (oi := { dst := some 86, op := Op.convert 22 9 (Operand.tmp 85), type := 9, pos := _, after := #[{ on := 10, ground := Ground.data }], guard := none }) (v := ?_) rfl (by kernel_rfl) (by kernel_rfl) (by kernel_rfl) (fun _ _ _ h => h) (Or.inl ⟨by rfl, ?_⟩) (by assumption) ?_
          rotate_left
          · intro w9 hSw
            try dsimp only at hSw
            go_simp
            try with_reducible rfl
          simp only [Act.put, List.setIfInBounds_toArray, List.set_cons_zero, List.set_cons_succ]
          refine wpAnyH_take (i := 12) (oi := { dst := some 87, op := Op.binOp BinOp.eql 9 (Operand.tmp 80) (Operand.tmp 86) 9, type := 4, pos := _, after := #[{ on := 5, ground := Ground.data }, { on := 11, ground := Ground.data }], guard := none }) (v := ?_) rfl (by kernel_rfl) (by kernel_rfl) (by kernel_rfl) (fun _ _ _ h => h) (Or.inl ⟨by rfl, ?_⟩) (by assumption) ?_
          rotate_left
          · intro w9 hSw
            try dsimp only at hSw
            go_simp
            try with_reducible rfl
          simp only [Act.put, List.setIfInBounds_toArray, List.set_cons_zero, List.set_cons_succ]
          refine wpAnyH_take (i := 13) (oi := { dst := some 10, op := Op.assign (Operand.tmp 87), type := 4, pos := _, after := #[{ on := 12, ground := Ground.data }, { on := 0, ground := Ground.phase }, { on := 1, ground := Ground.phase }, { on := 2, ground := Ground.phase }, { on := 3, ground := Ground.phase }, { on := 4, ground := Ground.phase }, { on := 5, ground := Ground.phase }, { on := 6, ground := Ground.phase }, { on := 7, ground := Ground.phase }, { on := 8, ground := Ground.phase }, { on := 9, ground := Ground.phase }, { on := 10, ground := Ground.phase }, { on := 11, ground := Ground.phase }, { on := 12, ground := Ground.phase }], guard := none }) (v := ?_) rfl (by kernel_rfl) (by kernel_rfl) (by kernel_rfl) (fun _ _ _ h => h) (Or.inl ⟨by rfl, ?_⟩) (by assumption) ?_
          rotate_left
          · intro w9 hSw
            try dsimp only at hSw
            go_simp
            try with_reducible rfl
          simp only [Act.put, List.setIfInBounds_toArray, List.set_cons_zero, List.set_cons_succ]
          refine wpAnyH_done (by kernel_rfl) ?_ _
          clear hHeld KK0
          skip
          go_wp2_with fail
          go_loopw [11, 10] (fun q v wr => ∃ j : Nat, j ≤ Xm1 ∧ q = .int .i64 j ∧ ∃ V : Bool, v = .bool V ∧ Hd (mayB S2 (S2.toList == S1.toList) (k : Int) dx.cache j = V) ∧ Hd (Below wc.heap.size wc wr)) (fun q _ _ => Xm1 - (intOf q).toNat)
          case atStart => exact ⟨0, Nat.zero_le _, rfl, _, rfl, ⟨by simp [mayB]⟩, E0⟩
          case round =>
            obtain ⟨j, hj, rfl, V, rfl, HVm, HB3⟩ := hrel
            clear E0
            have cx1 := cell_below (cellsA x_1.out.box 1 rfl) HB3.out
            by_cases hl2 : j < Xm1
            · have hj1 : (j : Int) < (Xm1 : Int) := by omega
              have hj0 : (0 : Int) ≤ (j : Int) := by omega
              obtain ⟨x, hx⟩ := get_some (l := dx.cache) (j := j) (by have := HLen.out; omega)
              obtain ⟨ca, cn, cc, hcr, hc0, hc1⟩ := HGC.out j x hx
              have hst := mayB_step (S := S2) (m := (S2.toList == S1.toList)) (i := (k : Int)) hx
              rw [HVm.out] at hst
              have BQ3 : Hd (Below wt.heap.size wt wr) := ⟨Below.next BQ.out HB3.out⟩
              have HPC : Hd (RdB wr [.slice ca cn cc] x.b) := ⟨rdB_ok.below hcr BQ3.out⟩
              obtain ⟨xn, hxn⟩ : ∃ z, x.n = z := ⟨_, rfl⟩
              obtain ⟨SC, hSC⟩ : ∃ S, strB x.b = S := ⟨_, rfl⟩
              rw [hxn] at hc0 hst
              rw [hSC] at hst
              have HSC : Hd (strB x.b = SC) := ⟨hSC⟩
              have HST : Hd (mayB S2 (S2.toList == S1.toList) (k : Int) dx.cache (j + 1) = (V || (decide (xn = (k : Int)) && (SC.toList == S2.toList)))) := ⟨hst⟩
              have HTC : Hd (wr.cell? ⟨xb1, xo1 + j * 2, none⟩ = some (.int .i64 xn) ∧ wr.cell? ⟨xb1, xo1 + j * 2 + 1, none⟩ = some (.slice ca cn cc)) := ⟨cell_below hc0 BQ3.out, cell_below hc1 BQ3.out⟩
              clear hx hcr hc0 hc1 hst hxn hSC
              go_wp2_with fail
              clear cx1
              have HXC : Hd (wr.cell? ⟨bX, 1, none⟩ = some (.slice (some ⟨xb1, xo1, none⟩) Xm1 Xe1) ∧ wr.cell? ⟨bZ, 0, none⟩ = some (.slice (some ⟨zb, zo, none⟩) Zm0 Ze0)) := ⟨cell_below (cellsA x_1.out.box 1 rfl) HB3.out, cell_below (cellsA z_1.out.box 0 rfl) HB3.out⟩
              have HPZ3 : Hd (RdB wr [.slice ra rn rc] sz ∧ wr.cell? ⟨zb, zo + k, none⟩ = some (.slice ra rn rc)) := ⟨rdB_ok.below HPZ.out HB3.out, cell_below HTX.out.2 HB3.out⟩
              cases V
              · by_cases hxk : xn = (k : Int)
                · subst hxk
                  have KK0 : Hd (∀ w', Below wr.heap.size wr w' → (w'.cell? ⟨bX, 1, none⟩ = some (.slice (some ⟨xb1, xo1, none⟩) Xm1 Xe1) ∧ w'.cell? ⟨bZ, 0, none⟩ = some (.slice (some ⟨zb, zo, none⟩) Zm0 Ze0) ∧ w'.cell? ⟨xb1, xo1 + j * 2, none⟩ = some (.int .i64 (k : Int)) ∧ w'.cell? ⟨xb1, xo1 + j * 2 + 1, none⟩ = some (.slice ca cn cc) ∧ w'.cell? ⟨zb, zo + k, none⟩ = some (.slice ra rn rc) ∧ (convert 22 9 (.slice ca cn cc)).run Try.prog w' = .ok (.string SC) w' ∧ (convert 22 9 (.slice ra rn rc)).run Try.prog w' = .ok (.string S2) w')) := ⟨fun w' hb => ⟨cell_below HXC.out.1 hb, cell_below HXC.out.2 hb, cell_below HTC.out.1 hb, cell_below HTC.out.2 hb, cell_below HPZ3.out.2 hb, Reads.conv_eq (rdB_parts (rdB_ok.below HPC.out hb)).2 cc HSC.out, Reads.conv_eq (rdB_parts (rdB_ok.below HPZ3.out.1 hb)).2 rc HS12.out.2⟩⟩
                  refine wp_region_held_drew (S := fun w' => (w'.cell? ⟨bX, 1, none⟩ = some (.slice (some ⟨xb1, xo1, none⟩) Xm1 Xe1) ∧ w'.cell? ⟨bZ, 0, none⟩ = some (.slice (some ⟨zb, zo, none⟩) Zm0 Ze0) ∧ w'.cell? ⟨xb1, xo1 + j * 2, none⟩ = some (.int .i64 (k : Int)) ∧ w'.cell? ⟨xb1, xo1 + j * 2 + 1, none⟩ = some (.slice ca cn cc) ∧ w'.cell? ⟨zb, zo + k, none⟩ = some (.slice ra rn rc) ∧ (convert 22 9 (.slice ca cn cc)).run Try.prog w' = .ok (.string SC) w' ∧ (convert 22 9 (.slice ra rn rc)).run Try.prog w' = .ok (.string S2) w')) (by kernel_rfl) (KK0.out _ (Below.refl _ wr).drew) (fun hHeld => ?_)
                  have E0 : Hd (Below wr.heap.size wr wr.drew) := ⟨(Below.refl _ wr).drew⟩
                  refine wpAnyH_take (i := 0) (oi := { dst := some 95, op := Op.move (Operand.tmp 10), type := 4, pos := _, after := #[], guard := none }) (v := ?_) rfl (by kernel_rfl) (by kernel_rfl) (by kernel_rfl) (fun _ _ _ h => h) (Or.inl ⟨by rfl, ?_⟩) (by assumption) ?_
                  rotate_left
                  · intro w9 hSw
                    try dsimp only at hSw
                    go_simp
                    try with_reducible rfl
                  simp only [Act.put, List.setIfInBounds_toArray, List.set_cons_zero, List.set_cons_succ]
                  refine wpAnyH_take (i := 1) (oi := { dst := some 96, op := Op.move (Operand.tmp 95), type := 4, pos := _, after := #[{ on := 0, ground := Ground.data }], guard := none }) (v := ?_) rfl (by kernel_rfl) (by kernel_rfl) (by kernel_rfl) (fun _ _ _ h => h) (Or.inl ⟨by rfl, ?_⟩) (by assumption) ?_
                  rotate_left
                  · intro w9 hSw
                    try dsimp only at hSw
                    go_simp
                    try with_reducible rfl
                  simp only [Act.put, List.setIfInBounds_toArray, List.set_cons_zero, List.set_cons_succ]
                  refine wpAnyH_take (i := 2) (oi := { dst := some 97, op := Op.fieldAddr 27 (Operand.tmp 6) 1, type := 0, pos := _, after := #[{ on := 1, ground := Ground.guard }], guard := some (1, false) }) (v := ?_) rfl (by kernel_rfl) (by kernel_rfl) (by kernel_rfl) (fun _ _ _ h => h) (Or.inl ⟨by rfl, ?_⟩) (by assumption) ?_
                  rotate_left
                  · intro w9 hSw
                    try dsimp only at hSw
                    go_simp
                    try with_reducible rfl
                  simp only [Act.put, List.setIfInBounds_toArray, List.set_cons_zero, List.set_cons_succ]
                  refine wpAnyH_take (i := 3) (oi := { dst := some 98, op := Op.load 25 (Operand.tmp 97), type := 25, pos := _, after := #[{ on := 2, ground := Ground.data }, { on := 1, ground := Ground.guard }], guard := some (1, false) }) (v := ?_) rfl (by kernel_rfl) (by kernel_rfl) (by kernel_rfl) (fun _ _ _ h => h) (Or.inl ⟨by rfl, ?_⟩) (by assumption) ?_
                  rotate_left
                  · intro w9 hSw
                    try dsimp only at hSw
                    go_simp
                    try with_reducible rfl
                  simp only [Act.put, List.setIfInBounds_toArray, List.set_cons_zero, List.set_cons_succ]
                  refine wpAnyH_take (i := 4) (oi := { dst := some 99, op := Op.move (Operand.tmp 11), type := 3, pos := _, after := #[{ on := 1, ground := Ground.guard }], guard := some (1, false) }) (v := ?_) rfl (by kernel_rfl) (by kernel_rfl) (by kernel_rfl) (fun _ _ _ h => h) (Or.inl ⟨by rfl, ?_⟩) (by assumption) ?_
                  rotate_left
                  · intro w9 hSw
                    try dsimp only at hSw
                    go_simp
                    try with_reducible rfl
                  simp only [Act.put, List.setIfInBounds_toArray, List.set_cons_zero, List.set_cons_succ]
                  refine wpAnyH_take (i := 5) (oi := { dst := some 100, op := Op.indexAddr 25 (Operand.tmp 98) (Operand.tmp 99), type := 0, pos := _, after := #[{ on := 3, ground := Ground.data }, { on := 4, ground := Ground.data }, { on := 1, ground := Ground.guard }], guard := some (1, false) }) (v := ?_) rfl (by kernel_rfl) (by kernel_rfl) (by kernel_rfl) (fun _ _ _ h => h) (Or.inl ⟨by rfl, ?_⟩) (by assumption) ?_
                  rotate_left
                  · intro w9 hSw
                    try dsimp only at hSw
                    go_simp
                    try with_reducible rfl
                  simp only [Act.put, List.setIfInBounds_toArray, List.set_cons_zero, List.set_cons_succ]
                  refine wpAnyH_take (i := 6) (oi := { dst := some 101, op := Op.fieldAddr 35 (Operand.tmp 100) 0, type := 0, pos := _, after := #[{ on := 5, ground := Ground.data }, { on := 1, ground := Ground.guard }], guard := some (1, false) }) (v := ?_) rfl (by kernel_rfl) (by kernel_rfl) (by kernel_rfl) (fun _ _ _ h => h) (Or.inl ⟨by rfl, ?_⟩) (by assumption) ?_
                  rotate_left
                  · intro w9 hSw
                    try dsimp only at hSw
                    go_simp
                    try with_reducible rfl
                  simp only [Act.put, List.setIfInBounds_toArray, List.set_cons_zero, List.set_cons_succ]
                  refine wpAnyH_take (i := 7) (oi := { dst := some 102, op := Op.load 3 (Operand.tmp 101), type := 3, pos := _, after := #[{ on := 6, ground := Ground.data }, { on := 1, ground := Ground.guard }], guard := some (1, false) }) (v := ?_) rfl (by kernel_rfl) (by kernel_rfl) (by kernel_rfl) (fun _ _ _ h => h) (Or.inl ⟨by rfl, ?_⟩) (by assumption) ?_
                  rotate_left
                  · intro w9 hSw
                    try dsimp only at hSw
                    go_simp
                    try with_reducible rfl
                  simp only [Act.put, List.setIfInBounds_toArray, List.set_cons_zero, List.set_cons_succ]
                  refine wpAnyH_take (i := 8) (oi := { dst := some 103, op := Op.move (Operand.tmp 9), type := 3, pos := _, after := #[{ on := 1, ground := Ground.guard }], guard := some (1, false) }) (v := ?_) rfl (by kernel_rfl) (by kernel_rfl) (by kernel_rfl) (fun _ _ _ h => h) (Or.inl ⟨by rfl, ?_⟩) (by assumption) ?_
                  rotate_left
                  · intro w9 hSw
                    try dsimp only at hSw
                    go_simp
                    try with_reducible rfl
                  simp only [Act.put, List.setIfInBounds_toArray, List.set_cons_zero, List.set_cons_succ]
                  refine wpAnyH_take (i := 9) (oi := { dst := some 104, op := Op.binOp BinOp.eql 3 (Operand.tmp 102) (Operand.tmp 103) 3, type := 4, pos := _, after := #[{ on := 7, ground := Ground.data }, { on := 8, ground := Ground.data }, { on := 1, ground := Ground.guard }], guard := some (1, false) }) (v := ?_) rfl (by kernel_rfl) (by kernel_rfl) (by kernel_rfl) (fun _ _ _ h => h) (Or.inl ⟨by rfl, ?_⟩) (by assumption) ?_
                  rotate_left
                  · intro w9 hSw
                    try dsimp only at hSw
                    go_simp
                    try with_reducible rfl
                  simp only [Act.put, List.setIfInBounds_toArray, List.set_cons_zero, List.set_cons_succ]
                  refine wpAnyH_take (i := 10) (oi := { dst := some 105, op := Op.move (Operand.tmp 104), type := 4, pos := _, after := #[{ on := 9, ground := Ground.data }, { on := 1, ground := Ground.chain }, { on := 1, ground := Ground.guard }], guard := some (1, false) }) (v := ?_) rfl (by kernel_rfl) (by kernel_rfl) (by kernel_rfl) (fun _ _ _ h => h) (Or.inl ⟨by rfl, ?_⟩) (by assumption) ?_
                  rotate_left
                  · intro w9 hSw
                    try dsimp only at hSw
                    go_simp
                    try with_reducible rfl
                  simp only [Act.put, List.setIfInBounds_toArray, List.set_cons_zero, List.set_cons_succ]
                  refine wpAnyH_take (i := 11) (oi := { dst := some 106, op := Op.fieldAddr 27 (Operand.tmp 6) 1, type := 0, pos := _, after := #[{ on := 10, ground := Ground.guard }], guard := some (10, true) }) (v := ?_) rfl (by kernel_rfl) (by kernel_rfl) (by kernel_rfl) (fun _ _ _ h => h) (Or.inl ⟨by rfl, ?_⟩) (by assumption) ?_
                  rotate_left
                  · intro w9 hSw
                    try dsimp only at hSw
                    go_simp
                    try with_reducible rfl
                  simp only [Act.put, List.setIfInBounds_toArray, List.set_cons_zero, List.set_cons_succ]
                  refine wpAnyH_take (i := 12) (oi := { dst := some 107, op := Op.load 25 (Operand.tmp 106), type := 25, pos := _, after := #[{ on := 11, ground := Ground.data }, { on := 10, ground := Ground.guard }], guard := some (10, true) }) (v := ?_) rfl (by kernel_rfl) (by kernel_rfl) (by kernel_rfl) (fun _ _ _ h => h) (Or.inl ⟨by rfl, ?_⟩) (by assumption) ?_
                  rotate_left
                  · intro w9 hSw
                    try dsimp only at hSw
                    go_simp
                    try with_reducible rfl
                  simp only [Act.put, List.setIfInBounds_toArray, List.set_cons_zero, List.set_cons_succ]
                  refine wpAnyH_take (i := 13) (oi := { dst := some 108, op := Op.move (Operand.tmp 11), type := 3, pos := _, after := #[{ on := 10, ground := Ground.guard }], guard := some (10, true) }) (v := ?_) rfl (by kernel_rfl) (by kernel_rfl) (by kernel_rfl) (fun _ _ _ h => h) (Or.inl ⟨by rfl, ?_⟩) (by assumption) ?_
                  rotate_left
                  · intro w9 hSw
                    try dsimp only at hSw
                    go_simp
                    try with_reducible rfl
                  simp only [Act.put, List.setIfInBounds_toArray, List.set_cons_zero, List.set_cons_succ]
                  refine wpAnyH_take (i := 14) (oi := { dst := some 109, op := Op.indexAddr 25 (Operand.tmp 107) (Operand.tmp 108), type := 0, pos := _, after := #[{ on := 12, ground := Ground.data }, { on := 13, ground := Ground.data }, { on := 10, ground := Ground.guard }], guard := some (10, true) }) (v := ?_) rfl (by kernel_rfl) (by kernel_rfl) (by kernel_rfl) (fun _ _ _ h => h) (Or.inl ⟨by rfl, ?_⟩) (by assumption) ?_
                  rotate_left
                  · intro w9 hSw
                    try dsimp only at hSw
                    go_simp
                    try with_reducible rfl
                  simp only [Act.put, List.setIfInBounds_toArray, List.set_cons_zero, List.set_cons_succ]
                  refine wpAnyH_take (i := 15) (oi := { dst := some 110, op := Op.fieldAddr 35 (Operand.tmp 109) 1, type := 0, pos := _, after := #[{ on := 14, ground := Ground.data }, { on := 10, ground := Ground.guard }], guard := some (10, true) }) (v := ?_) rfl (by kernel_rfl) (by kernel_rfl) (by kernel_rfl) (fun _ _ _ h => h) (Or.inl ⟨by rfl, ?_⟩) (by assumption) ?_
                  rotate_left
                  · intro w9 hSw
                    try dsimp only at hSw
                    go_simp
                    try with_reducible rfl
                  simp only [Act.put, List.setIfInBounds_toArray, List.set_cons_zero, List.set_cons_succ]
                  refine wpAnyH_take (i := 16) (oi := { dst := some 111, op := Op.load 22 (Operand.tmp 110), type := 22, pos := _, after := #[{ on := 15, ground := Ground.data }, { on := 10, ground := Ground.guard }], guard := some (10, true) }) (v := ?_) rfl (by kernel_rfl) (by kernel_rfl) (by kernel_rfl) (fun _ _ _ h => h) (Or.inl ⟨by rfl, ?_⟩) (by assumption) ?_
                  rotate_left
                  · intro w9 hSw
                    try dsimp only at hSw
                    go_simp
                    try with_reducible rfl
                  simp only [Act.put, List.setIfInBounds_toArray, List.set_cons_zero, List.set_cons_succ]
                  refine wpAnyH_take (i := 17) (oi := { dst := some 112, op := Op.convert 22 9 (Operand.tmp 111), type := 9, pos := _, after := #[{ on := 16, ground := Ground.data }, { on := 10, ground := Ground.guard }], guard := some (10, true) }) (v := ?_) rfl (by kernel_rfl) (by kernel_rfl) (by kernel_rfl) (fun _ _ _ h => h) (Or.inl ⟨by rfl, ?_⟩) (by assumption) ?_
                  rotate_left
                  · intro w9 hSw
                    try dsimp only at hSw
                    go_simp
                    try with_reducible rfl
                  simp only [Act.put, List.setIfInBounds_toArray, List.set_cons_zero, List.set_cons_succ]
                  refine wpAnyH_take (i := 18) (oi := { dst := some 113, op := Op.fieldAddr 27 (Operand.tmp 8) 0, type := 0, pos := _, after := #[{ on := 10, ground := Ground.guard }], guard := some (10, true) }) (v := ?_) rfl (by kernel_rfl) (by kernel_rfl) (by kernel_rfl) (fun _ _ _ h => h) (Or.inl ⟨by rfl, ?_⟩) (by assumption) ?_
                  rotate_left
                  · intro w9 hSw
                    try dsimp only at hSw
                    go_simp
                    try with_reducible rfl
                  simp only [Act.put, List.setIfInBounds_toArray, List.set_cons_zero, List.set_cons_succ]
                  refine wpAnyH_take (i := 19) (oi := { dst := some 114, op := Op.load 24 (Operand.tmp 113), type := 24, pos := _, after := #[{ on := 18, ground := Ground.data }, { on := 10, ground := Ground.guard }], guard := some (10, true) }) (v := ?_) rfl (by kernel_rfl) (by kernel_rfl) (by kernel_rfl) (fun _ _ _ h => h) (Or.inl ⟨by rfl, ?_⟩) (by assumption) ?_
                  rotate_left
                  · intro w9 hSw
                    try dsimp only at hSw
                    go_simp
                    try with_reducible rfl
                  simp only [Act.put, List.setIfInBounds_toArray, List.set_cons_zero, List.set_cons_succ]
                  refine wpAnyH_take (i := 20) (oi := { dst := some 115, op := Op.move (Operand.tmp 9), type := 3, pos := _, after := #[{ on := 10, ground := Ground.guard }], guard := some (10, true) }) (v := ?_) rfl (by kernel_rfl) (by kernel_rfl) (by kernel_rfl) (fun _ _ _ h => h) (Or.inl ⟨by rfl, ?_⟩) (by assumption) ?_
                  rotate_left
                  · intro w9 hSw
                    try dsimp only at hSw
                    go_simp
                    try with_reducible rfl
                  simp only [Act.put, List.setIfInBounds_toArray, List.set_cons_zero, List.set_cons_succ]
                  refine wpAnyH_take (i := 21) (oi := { dst := some 116, op := Op.indexAddr 24 (Operand.tmp 114) (Operand.tmp 115), type := 0, pos := _, after := #[{ on := 19, ground := Ground.data }, { on := 20, ground := Ground.data }, { on := 10, ground := Ground.guard }], guard := some (10, true) }) (v := ?_) rfl (by kernel_rfl) (by kernel_rfl) (by kernel_rfl) (fun _ _ _ h => h) (Or.inl ⟨by rfl, ?_⟩) (by assumption) ?_
                  rotate_left
                  · intro w9 hSw
                    try dsimp only at hSw
                    go_simp
                    try with_reducible rfl
                  simp only [Act.put, List.setIfInBounds_toArray, List.set_cons_zero, List.set_cons_succ]
                  refine wpAnyH_take (i := 22) (oi := { dst := some 117, op := Op.load 22 (Operand.tmp 116), type := 22, pos := _, after := #[{ on := 21, ground := Ground.data }, { on := 10, ground := Ground.guard }], guard := some (10, true) }) (v := ?_) rfl (by kernel_rfl) (by kernel_rfl) (by kernel_rfl) (fun _ _ _ h => h) (Or.inl ⟨by rfl, ?_⟩) (by assumption) ?_
                  rotate_left
                  · intro w9 hSw
                    try dsimp only at hSw
                    go_simp
                    try with_reducible rfl
                  simp only [Act.put, List.setIfInBounds_toArray, List.set_cons_zero, List.set_cons_succ]
                  refine wpAnyH_take (i := 23) (oi := { dst := some 118, op := Op.convert 22 9 (Operand.tmp 117), type := 9, pos := _, after := #[{ on := 22, ground := Ground.data }, { on := 10, ground := Ground.guard }], guard := some (10, true) }) (v := ?_) rfl (by kernel_rfl) (by kernel_rfl) (by kernel_rfl) (fun _ _ _ h => h) (Or.inl ⟨by rfl, ?_⟩) (by assumption) ?_
                  rotate_left
                  · intro w9 hSw
                    try dsimp only at hSw
                    go_simp
                    try with_reducible rfl
                  simp only [Act.put, List.setIfInBounds_toArray, List.set_cons_zero, List.set_cons_succ]
                  refine wpAnyH_take (i := 24) (oi := { dst := some 119, op := Op.binOp BinOp.eql 9 (Operand.tmp 112) (Operand.tmp 118) 9, type := 4, pos := _, after := #[{ on := 17, ground := Ground.data }, { on := 23, ground := Ground.data }, { on := 10, ground := Ground.guard }], guard := some (10, true) }) (v := ?_) rfl (by kernel_rfl) (by kernel_rfl) (by kernel_rfl) (fun _ _ _ h => h) (Or.inl ⟨by rfl, ?_⟩) (by assumption) ?_
                  rotate_left
                  · intro w9 hSw
                    try dsimp only at hSw
                    go_simp
                    try with_reducible rfl
                  simp only [Act.put, List.setIfInBounds_toArray, List.set_cons_zero, List.set_cons_succ]
                  refine wpAnyH_take (i := 25) (oi := { dst := some 120, op := Op.pick (Operand.tmp 105) (Operand.tmp 119) (Operand.const (Value.bool false)), type := 4, pos := _, after := #[{ on := 10, ground := Ground.data }, { on := 24, ground := Ground.data }, { on := 1, ground := Ground.guard }], guard := some (1, false) }) (v := ?_) rfl (by kernel_rfl) (by kernel_rfl) (by kernel_rfl) (fun _ _ _ h => h) (Or.inl ⟨by rfl, ?_⟩) (by assumption) ?_
                  rotate_left
                  · intro w9 hSw
                    try dsimp only at hSw
                    go_simp
                    try with_reducible rfl
                  simp only [Act.put, List.setIfInBounds_toArray, List.set_cons_zero, List.set_cons_succ]
                  refine wpAnyH_take (i := 26) (oi := { dst := some 121, op := Op.pick (Operand.tmp 96) (Operand.const (Value.bool true)) (Operand.tmp 120), type := 4, pos := _, after := #[{ on := 1, ground := Ground.data }, { on := 25, ground := Ground.data }], guard := none }) (v := ?_) rfl (by kernel_rfl) (by kernel_rfl) (by kernel_rfl) (fun _ _ _ h => h) (Or.inl ⟨by rfl, ?_⟩) (by assumption) ?_
                  rotate_left
                  · intro w9 hSw
                    try dsimp only at hSw
                    go_simp
                    try with_reducible rfl
                  simp only [Act.put, List.setIfInBounds_toArray, List.set_cons_zero, List.set_cons_succ]
                  refine wpAnyH_take (i := 27) (oi := { dst := some 10, op := Op.assign (Operand.tmp 121), type := 4, pos := _, after := #[{ on := 26, ground := Ground.data }, { on := 10, ground := Ground.chain }, { on := 0, ground := Ground.phase }, { on := 1, ground := Ground.phase }, { on := 2, ground := Ground.phase }, { on := 3, ground := Ground.phase }, { on := 4, ground := Ground.phase }, { on := 5, ground := Ground.phase }, { on := 6, ground := Ground.phase }, { on := 7, ground := Ground.phase }, { on := 8, ground := Ground.phase }, { on := 9, ground := Ground.phase }, { on := 10, ground := Ground.phase }, { on := 11, ground := Ground.phase }, { on := 12, ground := Ground.phase }, { on := 13, ground := Ground.phase }, { on := 14, ground := Ground.phase }, { on := 15, ground := Ground.phase }, { on := 16, ground := Ground.phase }, { on := 17, ground := Ground.phase }, { on := 18, ground := Ground.phase }, { on := 19, ground := Ground.phase }, { on := 20, ground := Ground.phase }, { on := 21, ground := Ground.phase }, { on := 22, ground := Ground.phase }, { on := 23, ground := Ground.phase }, { on := 24, ground := Ground.phase }, { on := 25, ground := Ground.phase }, { on := 26, ground := Ground.phase }], guard := none }) (v := ?_) rfl (by kernel_rfl) (by kernel_rfl) (by kernel_rfl) (fun _ _ _ h => h) (Or.inl ⟨by rfl, ?_⟩) (by assumption) ?_
                  rotate_left
                  · intro w9 hSw
                    try dsimp only at hSw
                    go_simp
                    try with_reducible rfl
                  simp only [Act.put, List.setIfInBounds_toArray, List.set_cons_zero, List.set_cons_succ]
                  refine wpAnyH_done (by kernel_rfl) ?_ _
                  clear hHeld KK0
                  have HB4 : Hd (Below wc.heap.size wc wr.drew) := ⟨HB3.out.trans (Below.mono E0.out HB3.out.size)⟩
                  have HV4 : Hd (mayB S2 (S2.toList == S1.toList) (k : Int) dx.cache (j + 1) = (SC.toList == S2.toList)) := ⟨by rw [HST.out]; simp⟩
                  clear HB3 HST E0 HPC HSC HTC HXC HPZ3 HVm
                  go_wp2_with fail
                  go_roundw
                  case rel => exact ⟨j + 1, by omega, by go_num, (SC.toList == S2.toList), rfl, HV4, HB4⟩
                  case measure => simp [intOf]; omega
                · have hxb : (xn == (k : Int)) = false := by simp [hxk]
                  have KK0 : Hd (∀ w', Below wr.heap.size wr w' → (w'.cell? ⟨bX, 1, none⟩ = some (.slice (some ⟨xb1, xo1, none⟩) Xm1 Xe1) ∧ w'.cell? ⟨bZ, 0, none⟩ = some (.slice (some ⟨zb, zo, none⟩) Zm0 Ze0) ∧ w'.cell? ⟨xb1, xo1 + j * 2, none⟩ = some (.int .i64 xn) ∧ w'.cell? ⟨xb1, xo1 + j * 2 + 1, none⟩ = some (.slice ca cn cc) ∧ w'.cell? ⟨zb, zo + k, none⟩ = some (.slice ra rn rc) ∧ (convert 22 9 (.slice ca cn cc)).run Try.prog w' = .ok (.string SC) w' ∧ (convert 22 9 (.slice ra rn rc)).run Try.prog w' = .ok (.string S2) w')) := ⟨fun w' hb => ⟨cell_below HXC.out.1 hb, cell_below HXC.out.2 hb, cell_below HTC.out.1 hb, cell_below HTC.out.2 hb, cell_below HPZ3.out.2 hb, Reads.conv_eq (rdB_parts (rdB_ok.below HPC.out hb)).2 cc HSC.out, Reads.conv_eq (rdB_parts (rdB_ok.below HPZ3.out.1 hb)).2 rc HS12.out.2⟩⟩
                  refine wp_region_held_drew (S := fun w' => (w'.cell? ⟨bX, 1, none⟩ = some (.slice (some ⟨xb1, xo1, none⟩) Xm1 Xe1) ∧ w'.cell? ⟨bZ, 0, none⟩ = some (.slice (some ⟨zb, zo, none⟩) Zm0 Ze0) ∧ w'.cell? ⟨xb1, xo1 + j * 2, none⟩ = some (.int .i64 xn) ∧ w'.cell? ⟨xb1, xo1 + j * 2 + 1, none⟩ = some (.slice ca cn cc) ∧ w'.cell? ⟨zb, zo + k, none⟩ = some (.slice ra rn rc) ∧ (convert 22 9 (.slice ca cn cc)).run Try.prog w' = .ok (.string SC) w' ∧ (convert 22 9 (.slice ra rn rc)).run Try.prog w' = .ok (.string S2) w')) (by kernel_rfl) (KK0.out _ (Below.refl _ wr).drew) (fun hHeld => ?_)
                  have E0 : Hd (Below wr.heap.size wr wr.drew) := ⟨(Below.refl _ wr).drew⟩
                  refine wpAnyH_take (i := 0) (oi := { dst := some 95, op := Op.move (Operand.tmp 10), type := 4, pos := _, after := #[], guard := none }) (v := ?_) rfl (by kernel_rfl) (by kernel_rfl) (by kernel_rfl) (fun _ _ _ h => h) (Or.inl ⟨by rfl, ?_⟩) (by assumption) ?_
                  rotate_left
                  · intro w9 hSw
                    try dsimp only at hSw
                    go_simp
                    try with_reducible rfl
                  simp only [Act.put, List.setIfInBounds_toArray, List.set_cons_zero, List.set_cons_succ]
                  refine wpAnyH_take (i := 1) (oi := { dst := some 96, op := Op.move (Operand.tmp 95), type := 4, pos := _, after := #[{ on := 0, ground := Ground.data }], guard := none }) (v := ?_) rfl (by kernel_rfl) (by kernel_rfl) (by kernel_rfl) (fun _ _ _ h => h) (Or.inl ⟨by rfl, ?_⟩) (by assumption) ?_
                  rotate_left
                  · intro w9 hSw
                    try dsimp only at hSw
                    go_simp
                    try with_reducible rfl
                  simp only [Act.put, List.setIfInBounds_toArray, List.set_cons_zero, List.set_cons_succ]
                  refine wpAnyH_take (i := 2) (oi := { dst := some 97, op := Op.fieldAddr 27 (Operand.tmp 6) 1, type := 0, pos := _, after := #[{ on := 1, ground := Ground.guard }], guard := some (1, false) }) (v := ?_) rfl (by kernel_rfl) (by kernel_rfl) (by kernel_rfl) (fun _ _ _ h => h) (Or.inl ⟨by rfl, ?_⟩) (by assumption) ?_
                  rotate_left
                  · intro w9 hSw
                    try dsimp only at hSw
                    go_simp
                    try with_reducible rfl
                  simp only [Act.put, List.setIfInBounds_toArray, List.set_cons_zero, List.set_cons_succ]
                  refine wpAnyH_take (i := 3) (oi := { dst := some 98, op := Op.load 25 (Operand.tmp 97), type := 25, pos := _, after := #[{ on := 2, ground := Ground.data }, { on := 1, ground := Ground.guard }], guard := some (1, false) }) (v := ?_) rfl (by kernel_rfl) (by kernel_rfl) (by kernel_rfl) (fun _ _ _ h => h) (Or.inl ⟨by rfl, ?_⟩) (by assumption) ?_
                  rotate_left
                  · intro w9 hSw
                    try dsimp only at hSw
                    go_simp
                    try with_reducible rfl
                  simp only [Act.put, List.setIfInBounds_toArray, List.set_cons_zero, List.set_cons_succ]
                  refine wpAnyH_take (i := 4) (oi := { dst := some 99, op := Op.move (Operand.tmp 11), type := 3, pos := _, after := #[{ on := 1, ground := Ground.guard }], guard := some (1, false) }) (v := ?_) rfl (by kernel_rfl) (by kernel_rfl) (by kernel_rfl) (fun _ _ _ h => h) (Or.inl ⟨by rfl, ?_⟩) (by assumption) ?_
                  rotate_left
                  · intro w9 hSw
                    try dsimp only at hSw
                    go_simp
                    try with_reducible rfl
                  simp only [Act.put, List.setIfInBounds_toArray, List.set_cons_zero, List.set_cons_succ]
                  refine wpAnyH_take (i := 5) (oi := { dst := some 100, op := Op.indexAddr 25 (Operand.tmp 98) (Operand.tmp 99), type := 0, pos := _, after := #[{ on := 3, ground := Ground.data }, { on := 4, ground := Ground.data }, { on := 1, ground := Ground.guard }], guard := some (1, false) }) (v := ?_) rfl (by kernel_rfl) (by kernel_rfl) (by kernel_rfl) (fun _ _ _ h => h) (Or.inl ⟨by rfl, ?_⟩) (by assumption) ?_
                  rotate_left
                  · intro w9 hSw
                    try dsimp only at hSw
                    go_simp
                    try with_reducible rfl
                  simp only [Act.put, List.setIfInBounds_toArray, List.set_cons_zero, List.set_cons_succ]
                  refine wpAnyH_take (i := 6) (oi := { dst := some 101, op := Op.fieldAddr 35 (Operand.tmp 100) 0, type := 0, pos := _, after := #[{ on := 5, ground := Ground.data }, { on := 1, ground := Ground.guard }], guard := some (1, false) }) (v := ?_) rfl (by kernel_rfl) (by kernel_rfl) (by kernel_rfl) (fun _ _ _ h => h) (Or.inl ⟨by rfl, ?_⟩) (by assumption) ?_
                  rotate_left
                  · intro w9 hSw
                    try dsimp only at hSw
                    go_simp
                    try with_reducible rfl
                  simp only [Act.put, List.setIfInBounds_toArray, List.set_cons_zero, List.set_cons_succ]
                  refine wpAnyH_take (i := 7) (oi := { dst := some 102, op := Op.load 3 (Operand.tmp 101), type := 3, pos := _, after := #[{ on := 6, ground := Ground.data }, { on := 1, ground := Ground.guard }], guard := some (1, false) }) (v := ?_) rfl (by kernel_rfl) (by kernel_rfl) (by kernel_rfl) (fun _ _ _ h => h) (Or.inl ⟨by rfl, ?_⟩) (by assumption) ?_
                  rotate_left
                  · intro w9 hSw
                    try dsimp only at hSw
                    go_simp
                    try with_reducible rfl
                  simp only [Act.put, List.setIfInBounds_toArray, List.set_cons_zero, List.set_cons_succ]
                  refine wpAnyH_take (i := 8) (oi := { dst := some 103, op := Op.move (Operand.tmp 9), type := 3, pos := _, after := #[{ on := 1, ground := Ground.guard }], guard := some (1, false) }) (v := ?_) rfl (by kernel_rfl) (by kernel_rfl) (by kernel_rfl) (fun _ _ _ h => h) (Or.inl ⟨by rfl, ?_⟩) (by assumption) ?_
                  rotate_left
                  · intro w9 hSw
                    try dsimp only at hSw
                    go_simp
                    try with_reducible rfl
                  simp only [Act.put, List.setIfInBounds_toArray, List.set_cons_zero, List.set_cons_succ]
                  refine wpAnyH_take (i := 9) (oi := { dst := some 104, op := Op.binOp BinOp.eql 3 (Operand.tmp 102) (Operand.tmp 103) 3, type := 4, pos := _, after := #[{ on := 7, ground := Ground.data }, { on := 8, ground := Ground.data }, { on := 1, ground := Ground.guard }], guard := some (1, false) }) (v := ?_) rfl (by kernel_rfl) (by kernel_rfl) (by kernel_rfl) (fun _ _ _ h => h) (Or.inl ⟨by rfl, ?_⟩) (by assumption) ?_
                  rotate_left
                  · intro w9 hSw
                    try dsimp only at hSw
                    go_simp
                    try with_reducible rfl
                  simp only [Act.put, List.setIfInBounds_toArray, List.set_cons_zero, List.set_cons_succ]
                  refine wpAnyH_take (i := 10) (oi := { dst := some 105, op := Op.move (Operand.tmp 104), type := 4, pos := _, after := #[{ on := 9, ground := Ground.data }, { on := 1, ground := Ground.chain }, { on := 1, ground := Ground.guard }], guard := some (1, false) }) (v := ?_) rfl (by kernel_rfl) (by kernel_rfl) (by kernel_rfl) (fun _ _ _ h => h) (Or.inl ⟨by rfl, ?_⟩) (by assumption) ?_
                  rotate_left
                  · intro w9 hSw
                    try dsimp only at hSw
                    go_simp
                    try with_reducible rfl
                  simp only [Act.put, List.setIfInBounds_toArray, List.set_cons_zero, List.set_cons_succ]
                  refine wpAnyH_take (i := 11) (oi := { dst := some 106, op := Op.fieldAddr 27 (Operand.tmp 6) 1, type := 0, pos := _, after := #[{ on := 10, ground := Ground.guard }], guard := some (10, true) }) (v := _) rfl (by kernel_rfl) (by kernel_rfl) (by kernel_rfl) (fun _ _ _ h => h) (Or.inr ⟨by rfl, rfl⟩) (by assumption) ?_
                  simp only [Act.put, List.setIfInBounds_toArray, List.set_cons_zero, List.set_cons_succ]
                  refine wpAnyH_take (i := 12) (oi := { dst := some 107, op := Op.load 25 (Operand.tmp 106), type := 25, pos := _, after := #[{ on := 11, ground := Ground.data }, { on := 10, ground := Ground.guard }], guard := some (10, true) }) (v := _) rfl (by kernel_rfl) (by kernel_rfl) (by kernel_rfl) (fun _ _ _ h => h) (Or.inr ⟨by rfl, rfl⟩) (by assumption) ?_
                  simp only [Act.put, List.setIfInBounds_toArray, List.set_cons_zero, List.set_cons_succ]
                  refine wpAnyH_take (i := 13) (oi := { dst := some 108, op := Op.move (Operand.tmp 11), type := 3, pos := _, after := #[{ on := 10, ground := Ground.guard }], guard := some (10, true) }) (v := _) rfl (by kernel_rfl) (by kernel_rfl) (by kernel_rfl) (fun _ _ _ h => h) (Or.inr ⟨by rfl, rfl⟩) (by assumption) ?_
                  simp only [Act.put, List.setIfInBounds_toArray, List.set_cons_zero, List.set_cons_succ]
                  refine wpAnyH_take (i := 14) (oi := { dst := some 109, op := Op.indexAddr 25 (Operand.tmp 107) (Operand.tmp 108), type := 0, pos := _, after := #[{ on := 12, ground := Ground.data }, { on := 13, ground := Ground.data }, { on := 10, ground := Ground.guard }], guard := some (10, true) }) (v := _) rfl (by kernel_rfl) (by kernel_rfl) (by kernel_rfl) (fun _ _ _ h => h) (Or.inr ⟨by rfl, rfl⟩) (by assumption) ?_
                  simp only [Act.put, List.setIfInBounds_toArray, List.set_cons_zero, List.set_cons_succ]
                  refine wpAnyH_take (i := 15) (oi := { dst := some 110, op := Op.fieldAddr 35 (Operand.tmp 109) 1, type := 0, pos := _, after := #[{ on := 14, ground := Ground.data }, { on := 10, ground := Ground.guard }], guard := some (10, true) }) (v := _) rfl (by kernel_rfl) (by kernel_rfl) (by kernel_rfl) (fun _ _ _ h => h) (Or.inr ⟨by rfl, rfl⟩) (by assumption) ?_
                  simp only [Act.put, List.setIfInBounds_toArray, List.set_cons_zero, List.set_cons_succ]
                  refine wpAnyH_take (i := 16) (oi := { dst := some 111, op := Op.load 22 (Operand.tmp 110), type := 22, pos := _, after := #[{ on := 15, ground := Ground.data }, { on := 10, ground := Ground.guard }], guard := some (10, true) }) (v := _) rfl (by kernel_rfl) (by kernel_rfl) (by kernel_rfl) (fun _ _ _ h => h) (Or.inr ⟨by rfl, rfl⟩) (by assumption) ?_
                  simp only [Act.put, List.setIfInBounds_toArray, List.set_cons_zero, List.set_cons_succ]
                  refine wpAnyH_take (i := 17) (oi := { dst := some 112, op := Op.convert 22 9 (Operand.tmp 111), type := 9, pos := _, after := #[{ on := 16, ground := Ground.data }, { on := 10, ground := Ground.guard }], guard := some (10, true) }) (v := _) rfl (by kernel_rfl) (by kernel_rfl) (by kernel_rfl) (fun _ _ _ h => h) (Or.inr ⟨by rfl, rfl⟩) (by assumption) ?_
                  simp only [Act.put, List.setIfInBounds_toArray, List.set_cons_zero, List.set_cons_succ]
                  refine wpAnyH_take (i := 18) (oi := { dst := some 113, op := Op.fieldAddr 27 (Operand.tmp 8) 0, type := 0, pos := _, after := #[{ on := 10, ground := Ground.guard }], guard := some (10, true) }) (v := _) rfl (by kernel_rfl) (by kernel_rfl) (by kernel_rfl) (fun _ _ _ h => h) (Or.inr ⟨by rfl, rfl⟩) (by assumption) ?_
                  simp only [Act.put, List.setIfInBounds_toArray, List.set_cons_zero, List.set_cons_succ]
                  refine wpAnyH_take (i := 19) (oi := { dst := some 114, op := Op.load 24 (Operand.tmp 113), type := 24, pos := _, after := #[{ on := 18, ground := Ground.data }, { on := 10, ground := Ground.guard }], guard := some (10, true) }) (v := _) rfl (by kernel_rfl) (by kernel_rfl) (by kernel_rfl) (fun _ _ _ h => h) (Or.inr ⟨by rfl, rfl⟩) (by assumption) ?_
                  simp only [Act.put, List.setIfInBounds_toArray, List.set_cons_zero, List.set_cons_succ]
                  refine wpAnyH_take (i := 20) (oi := { dst := some 115, op := Op.move (Operand.tmp 9), type := 3, pos := _, after := #[{ on := 10, ground := Ground.guard }], guard := some (10, true) }) (v := _) rfl (by kernel_rfl) (by kernel_rfl) (by kernel_rfl) (fun _ _ _ h => h) (Or.inr ⟨by rfl, rfl⟩) (by assumption) ?_
                  simp only [Act.put, List.setIfInBounds_toArray, List.set_cons_zero, List.set_cons_succ]
                  refine wpAnyH_take (i := 21) (oi := { dst := some 116, op := Op.indexAddr 24 (Operand.tmp 114) (Operand.tmp 115), type := 0, pos := _, after := #[{ on := 19, ground := Ground.data }, { on := 20, ground := Ground.data }, { on := 10, ground := Ground.guard }], guard := some (10, true) }) (v := _) rfl (by kernel_rfl) (by kernel_rfl) (by kernel_rfl) (fun _ _ _ h => h) (Or.inr ⟨by rfl, rfl⟩) (by assumption) ?_
                  simp only [Act.put, List.setIfInBounds_toArray, List.set_cons_zero, List.set_cons_succ]
                  refine wpAnyH_take (i := 22) (oi := { dst := some 117, op := Op.load 22 (Operand.tmp 116), type := 22, pos := _, after := #[{ on := 21, ground := Ground.data }, { on := 10, ground := Ground.guard }], guard := some (10, true) }) (v := _) rfl (by kernel_rfl) (by kernel_rfl) (by kernel_rfl) (fun _ _ _ h => h) (Or.inr ⟨by rfl, rfl⟩) (by assumption) ?_
                  simp only [Act.put, List.setIfInBounds_toArray, List.set_cons_zero, List.set_cons_succ]
                  refine wpAnyH_take (i := 23) (oi := { dst := some 118, op := Op.convert 22 9 (Operand.tmp 117), type := 9, pos := _, after := #[{ on := 22, ground := Ground.data }, { on := 10, ground := Ground.guard }], guard := some (10, true) }) (v := _) rfl (by kernel_rfl) (by kernel_rfl) (by kernel_rfl) (fun _ _ _ h => h) (Or.inr ⟨by rfl, rfl⟩) (by assumption) ?_
                  simp only [Act.put, List.setIfInBounds_toArray, List.set_cons_zero, List.set_cons_succ]
                  refine wpAnyH_take (i := 24) (oi := { dst := some 119, op := Op.binOp BinOp.eql 9 (Operand.tmp 112) (Operand.tmp 118) 9, type := 4, pos := _, after := #[{ on := 17, ground := Ground.data }, { on := 23, ground := Ground.data }, { on := 10, ground := Ground.guard }], guard := some (10, true) }) (v := _) rfl (by kernel_rfl) (by kernel_rfl) (by kernel_rfl) (fun _ _ _ h => h) (Or.inr ⟨by rfl, rfl⟩) (by assumption) ?_
                  simp only [Act.put, List.setIfInBounds_toArray, List.set_cons_zero, List.set_cons_succ]
                  refine wpAnyH_take (i := 25) (oi := { dst := some 120, op := Op.pick (Operand.tmp 105) (Operand.tmp 119) (Operand.const (Value.bool false)), type := 4, pos := _, after := #[{ on := 10, ground := Ground.data }, { on := 24, ground := Ground.data }, { on := 1, ground := Ground.guard }], guard := some (1, false) }) (v := ?_) rfl (by kernel_rfl) (by kernel_rfl) (by kernel_rfl) (fun _ _ _ h => h) (Or.inl ⟨by rfl, ?_⟩) (by assumption) ?_
                  rotate_left
                  · intro w9 hSw
                    try dsimp only at hSw
                    go_simp
                    try with_reducible rfl
                  simp only [Act.put, List.setIfInBounds_toArray, List.set_cons_zero, List.set_cons_succ]
                  refine wpAnyH_take (i := 26) (oi := { dst := some 121, op := Op.pick (Operand.tmp 96) (Operand.const (Value.bool true)) (Operand.tmp 120), type := 4, pos := _, after := #[{ on := 1, ground := Ground.data }, { on := 25, ground := Ground.data }], guard := none }) (v := ?_) rfl (by kernel_rfl) (by kernel_rfl) (by kernel_rfl) (fun _ _ _ h => h) (Or.inl ⟨by rfl, ?_⟩) (by assumption) ?_
                  rotate_left
                  · intro w9 hSw
                    try dsimp only at hSw
                    go_simp
                    try with_reducible rfl
                  simp only [Act.put, List.setIfInBounds_toArray, List.set_cons_zero, List.set_cons_succ]
                  refine wpAnyH_take (i := 27) (oi := { dst := some 10, op := Op.assign (Operand.tmp 121), type := 4, pos := _, after := #[{ on := 26, ground := Ground.data }, { on := 10, ground := Ground.chain }, { on := 0, ground := Ground.phase }, { on := 1, ground := Ground.phase }, { on := 2, ground := Ground.phase }, { on := 3, ground := Ground.phase }, { on := 4, ground := Ground.phase }, { on := 5, ground := Ground.phase }, { on := 6, ground := Ground.phase }, { on := 7, ground := Ground.phase }, { on := 8, ground := Ground.phase }, { on := 9, ground := Ground.phase }, { on := 10, ground := Ground.phase }, { on := 11, ground := Ground.phase }, { on := 12, ground := Ground.phase }, { on := 13, ground := Ground.phase }, { on := 14, ground := Ground.phase }, { on := 15, ground := Ground.phase }, { on := 16, ground := Ground.phase }, { on := 17, ground := Ground.phase }, { on := 18, ground := Ground.phase }, { on := 19, ground := Ground.phase }, { on := 20, ground := Ground.phase }, { on := 21, ground := Ground.phase }, { on := 22, ground := Ground.phase }, { on := 23, ground := Ground.phase }, { on := 24, ground := Ground.phase }, { on := 25, ground := Ground.phase }, { on := 26, ground := Ground.phase }], guard := none }) (v := ?_) rfl (by kernel_rfl) (by kernel_rfl) (by kernel_rfl) (fun _ _ _ h => h) (Or.inl ⟨by rfl, ?_⟩) (by assumption) ?_
                  rotate_left
                  · intro w9 hSw
                    try dsimp only at hSw
                    go_simp
                    try with_reducible rfl
                  simp only [Act.put, List.setIfInBounds_toArray, List.set_cons_zero, List.set_cons_succ]
                  refine wpAnyH_done (by kernel_rfl) ?_ _
                  clear hHeld KK0
                  have HB4 : Hd (Below wc.heap.size wc wr.drew) := ⟨HB3.out.trans (Below.mono E0.out HB3.out.size)⟩
                  have HV4 : Hd (mayB S2 (S2.toList == S1.toList) (k : Int) dx.cache (j + 1) = false) := ⟨by rw [HST.out]; simp [hxk]⟩
                  clear HB3 HST E0 HPC HSC HTC HXC HPZ3 HVm
                  go_wp2_with fail
                  go_roundw
                  case rel => exact ⟨j + 1, by omega, by go_num, false, rfl, HV4, HB4⟩
                  case measure => simp [intOf]; omega
              · have KK0 : Hd (∀ w', Below wr.heap.size wr w' → (w'.cell? ⟨bX, 1, none⟩ = some (.slice (some ⟨xb1, xo1, none⟩) Xm1 Xe1) ∧ w'.cell? ⟨bZ, 0, none⟩ = some (.slice (some ⟨zb, zo, none⟩) Zm0 Ze0) ∧ w'.cell? ⟨xb1, xo1 + j * 2, none⟩ = some (.int .i64 xn) ∧ w'.cell? ⟨xb1, xo1 + j * 2 + 1, none⟩ = some (.slice ca cn cc) ∧ w'.cell? ⟨zb, zo + k, none⟩ = some (.slice ra rn rc) ∧ (convert 22 9 (.slice ca cn cc)).run Try.prog w' = .ok (.string SC) w' ∧ (convert 22 9 (.slice ra rn rc)).run Try.prog w' = .ok (.string S2) w')) := ⟨fun w' hb => ⟨cell_below HXC.out.1 hb, cell_below HXC.out.2 hb, cell_below HTC.out.1 hb, cell_below HTC.out.2 hb, cell_below HPZ3.out.2 hb, Reads.conv_eq (rdB_parts (rdB_ok.below HPC.out hb)).2 cc HSC.out, Reads.conv_eq (rdB_parts (rdB_ok.below HPZ3.out.1 hb)).2 rc HS12.out.2⟩⟩
                refine wp_region_held_drew (S := fun w' => (w'.cell? ⟨bX, 1, none⟩ = some (.slice (some ⟨xb1, xo1, none⟩) Xm1 Xe1) ∧ w'.cell? ⟨bZ, 0, none⟩ = some (.slice (some ⟨zb, zo, none⟩) Zm0 Ze0) ∧ w'.cell? ⟨xb1, xo1 + j * 2, none⟩ = some (.int .i64 xn) ∧ w'.cell? ⟨xb1, xo1 + j * 2 + 1, none⟩ = some (.slice ca cn cc) ∧ w'.cell? ⟨zb, zo + k, none⟩ = some (.slice ra rn rc) ∧ (convert 22 9 (.slice ca cn cc)).run Try.prog w' = .ok (.string SC) w' ∧ (convert 22 9 (.slice ra rn rc)).run Try.prog w' = .ok (.string S2) w')) (by kernel_rfl) (KK0.out _ (Below.refl _ wr).drew) (fun hHeld => ?_)
                have E0 : Hd (Below wr.heap.size wr wr.drew) := ⟨(Below.refl _ wr).drew⟩
                refine wpAnyH_take (i := 0) (oi := { dst := some 95, op := Op.move (Operand.tmp 10), type := 4, pos := _, after := #[], guard := none }) (v := ?_) rfl (by kernel_rfl) (by kernel_rfl) (by kernel_rfl) (fun _ _ _ h => h) (Or.inl ⟨by rfl, ?_⟩) (by assumption) ?_
                rotate_left
                · intro w9 hSw
                  try dsimp only at hSw
                  go_simp
                  try with_reducible rfl
                simp only [Act.put, List.setIfInBounds_toArray, List.set_cons_zero, List.set_cons_succ]
                refine wpAnyH_take (i := 1) (oi := { dst := some 96, op := Op.move (Operand.tmp 95), type := 4, pos := _, after := #[{ on := 0, ground := Ground.data }], guard := none }) (v := ?_) rfl (by kernel_rfl) (by kernel_rfl) (by kernel_rfl) (fun _ _ _ h => h) (Or.inl ⟨by rfl, ?_⟩) (by assumption) ?_
                rotate_left
                · intro w9 hSw
                  try dsimp only at hSw
                  go_simp
                  try with_reducible rfl
                simp only [Act.put, List.setIfInBounds_toArray, List.set_cons_zero, List.set_cons_succ]
                refine wpAnyH_take (i := 2) (oi := { dst := some 97, op := Op.fieldAddr 27 (Operand.tmp 6) 1, type := 0, pos := _, after := #[{ on := 1, ground := Ground.guard }], guard := some (1, false) }) (v := _) rfl (by kernel_rfl) (by kernel_rfl) (by kernel_rfl) (fun _ _ _ h => h) (Or.inr ⟨by rfl, rfl⟩) (by assumption) ?_
                simp only [Act.put, List.setIfInBounds_toArray, List.set_cons_zero, List.set_cons_succ]
                refine wpAnyH_take (i := 3) (oi := { dst := some 98, op := Op.load 25 (Operand.tmp 97), type := 25, pos := _, after := #[{ on := 2, ground := Ground.data }, { on := 1, ground := Ground.guard }], guard := some (1, false) }) (v := _) rfl (by kernel_rfl) (by kernel_rfl) (by kernel_rfl) (fun _ _ _ h => h) (Or.inr ⟨by rfl, rfl⟩) (by assumption) ?_
                simp only [Act.put, List.setIfInBounds_toArray, List.set_cons_zero, List.set_cons_succ]
                refine wpAnyH_take (i := 4) (oi := { dst := some 99, op := Op.move (Operand.tmp 11), type := 3, pos := _, after := #[{ on := 1, ground := Ground.guard }], guard := some (1, false) }) (v := _) rfl (by kernel_rfl) (by kernel_rfl) (by kernel_rfl) (fun _ _ _ h => h) (Or.inr ⟨by rfl, rfl⟩) (by assumption) ?_
                simp only [Act.put, List.setIfInBounds_toArray, List.set_cons_zero, List.set_cons_succ]
                refine wpAnyH_take (i := 5) (oi := { dst := some 100, op := Op.indexAddr 25 (Operand.tmp 98) (Operand.tmp 99), type := 0, pos := _, after := #[{ on := 3, ground := Ground.data }, { on := 4, ground := Ground.data }, { on := 1, ground := Ground.guard }], guard := some (1, false) }) (v := _) rfl (by kernel_rfl) (by kernel_rfl) (by kernel_rfl) (fun _ _ _ h => h) (Or.inr ⟨by rfl, rfl⟩) (by assumption) ?_
                simp only [Act.put, List.setIfInBounds_toArray, List.set_cons_zero, List.set_cons_succ]
                refine wpAnyH_take (i := 6) (oi := { dst := some 101, op := Op.fieldAddr 35 (Operand.tmp 100) 0, type := 0, pos := _, after := #[{ on := 5, ground := Ground.data }, { on := 1, ground := Ground.guard }], guard := some (1, false) }) (v := _) rfl (by kernel_rfl) (by kernel_rfl) (by kernel_rfl) (fun _ _ _ h => h) (Or.inr ⟨by rfl, rfl⟩) (by assumption) ?_
                simp only [Act.put, List.setIfInBounds_toArray, List.set_cons_zero, List.set_cons_succ]
                refine wpAnyH_take (i := 7) (oi := { dst := some 102, op := Op.load 3 (Operand.tmp 101), type := 3, pos := _, after := #[{ on := 6, ground := Ground.data }, { on := 1, ground := Ground.guard }], guard := some (1, false) }) (v := _) rfl (by kernel_rfl) (by kernel_rfl) (by kernel_rfl) (fun _ _ _ h => h) (Or.inr ⟨by rfl, rfl⟩) (by assumption) ?_
                simp only [Act.put, List.setIfInBounds_toArray, List.set_cons_zero, List.set_cons_succ]
                refine wpAnyH_take (i := 8) (oi := { dst := some 103, op := Op.move (Operand.tmp 9), type := 3, pos := _, after := #[{ on := 1, ground := Ground.guard }], guard := some (1, false) }) (v := _) rfl (by kernel_rfl) (by kernel_rfl) (by kernel_rfl) (fun _ _ _ h => h) (Or.inr ⟨by rfl, rfl⟩) (by assumption) ?_
                simp only [Act.put, List.setIfInBounds_toArray, List.set_cons_zero, List.set_cons_succ]
                refine wpAnyH_take (i := 9) (oi := { dst := some 104, op := Op.binOp BinOp.eql 3 (Operand.tmp 102) (Operand.tmp 103) 3, type := 4, pos := _, after := #[{ on := 7, ground := Ground.data }, { on := 8, ground := Ground.data }, { on := 1, ground := Ground.guard }], guard := some (1, false) }) (v := _) rfl (by kernel_rfl) (by kernel_rfl) (by kernel_rfl) (fun _ _ _ h => h) (Or.inr ⟨by rfl, rfl⟩) (by assumption) ?_
                simp only [Act.put, List.setIfInBounds_toArray, List.set_cons_zero, List.set_cons_succ]
                refine wpAnyH_take (i := 10) (oi := { dst := some 105, op := Op.move (Operand.tmp 104), type := 4, pos := _, after := #[{ on := 9, ground := Ground.data }, { on := 1, ground := Ground.chain }, { on := 1, ground := Ground.guard }], guard := some (1, false) }) (v := _) rfl (by kernel_rfl) (by kernel_rfl) (by kernel_rfl) (fun _ _ _ h => h) (Or.inr ⟨by rfl, rfl⟩) (by assumption) ?_
                simp only [Act.put, List.setIfInBounds_toArray, List.set_cons_zero, List.set_cons_succ]
                refine wpAnyH_take (i := 11) (oi := { dst := some 106, op := Op.fieldAddr 27 (Operand.tmp 6) 1, type := 0, pos := _, after := #[{ on := 10, ground := Ground.guard }], guard := some (10, true) }) (v := _) rfl (by kernel_rfl) (by kernel_rfl) (by kernel_rfl) (fun _ _ _ h => h) (Or.inr ⟨by rfl, rfl⟩) (by assumption) ?_
                simp only [Act.put, List.setIfInBounds_toArray, List.set_cons_zero, List.set_cons_succ]
                refine wpAnyH_take (i := 12) (oi := { dst := some 107, op := Op.load 25 (Operand.tmp 106), type := 25, pos := _, after := #[{ on := 11, ground := Ground.data }, { on := 10, ground := Ground.guard }], guard := some (10, true) }) (v := _) rfl (by kernel_rfl) (by kernel_rfl) (by kernel_rfl) (fun _ _ _ h => h) (Or.inr ⟨by rfl, rfl⟩) (by assumption) ?_
                simp only [Act.put, List.setIfInBounds_toArray, List.set_cons_zero, List.set_cons_succ]
                refine wpAnyH_take (i := 13) (oi := { dst := some 108, op := Op.move (Operand.tmp 11), type := 3, pos := _, after := #[{ on := 10, ground := Ground.guard }], guard := some (10, true) }) (v := _) rfl (by kernel_rfl) (by kernel_rfl) (by kernel_rfl) (fun _ _ _ h => h) (Or.inr ⟨by rfl, rfl⟩) (by assumption) ?_
                simp only [Act.put, List.setIfInBounds_toArray, List.set_cons_zero, List.set_cons_succ]
                refine wpAnyH_take (i := 14) (oi := { dst := some 109, op := Op.indexAddr 25 (Operand.tmp 107) (Operand.tmp 108), type := 0, pos := _, after := #[{ on := 12, ground := Ground.data }, { on := 13, ground := Ground.data }, { on := 10, ground := Ground.guard }], guard := some (10, true) }) (v := _) rfl (by kernel_rfl) (by kernel_rfl) (by kernel_rfl) (fun _ _ _ h => h) (Or.inr ⟨by rfl, rfl⟩) (by assumption) ?_
                simp only [Act.put, List.setIfInBounds_toArray, List.set_cons_zero, List.set_cons_succ]
                refine wpAnyH_take (i := 15) (oi := { dst := some 110, op := Op.fieldAddr 35 (Operand.tmp 109) 1, type := 0, pos := _, after := #[{ on := 14, ground := Ground.data }, { on := 10, ground := Ground.guard }], guard := some (10, true) }) (v := _) rfl (by kernel_rfl) (by kernel_rfl) (by kernel_rfl) (fun _ _ _ h => h) (Or.inr ⟨by rfl, rfl⟩) (by assumption) ?_
                simp only [Act.put, List.setIfInBounds_toArray, List.set_cons_zero, List.set_cons_succ]
                refine wpAnyH_take (i := 16) (oi := { dst := some 111, op := Op.load 22 (Operand.tmp 110), type := 22, pos := _, after := #[{ on := 15, ground := Ground.data }, { on := 10, ground := Ground.guard }], guard := some (10, true) }) (v := _) rfl (by kernel_rfl) (by kernel_rfl) (by kernel_rfl) (fun _ _ _ h => h) (Or.inr ⟨by rfl, rfl⟩) (by assumption) ?_
                simp only [Act.put, List.setIfInBounds_toArray, List.set_cons_zero, List.set_cons_succ]
                refine wpAnyH_take (i := 17) (oi := { dst := some 112, op := Op.convert 22 9 (Operand.tmp 111), type := 9, pos := _, after := #[{ on := 16, ground := Ground.data }, { on := 10, ground := Ground.guard }], guard := some (10, true) }) (v := _) rfl (by kernel_rfl) (by kernel_rfl) (by kernel_rfl) (fun _ _ _ h => h) (Or.inr ⟨by rfl, rfl⟩) (by assumption) ?_
                simp only [Act.put, List.setIfInBounds_toArray, List.set_cons_zero, List.set_cons_succ]
                refine wpAnyH_take (i := 18) (oi := { dst := some 113, op := Op.fieldAddr 27 (Operand.tmp 8) 0, type := 0, pos := _, after := #[{ on := 10, ground := Ground.guard }], guard := some (10, true) }) (v := _) rfl (by kernel_rfl) (by kernel_rfl) (by kernel_rfl) (fun _ _ _ h => h) (Or.inr ⟨by rfl, rfl⟩) (by assumption) ?_
                simp only [Act.put, List.setIfInBounds_toArray, List.set_cons_zero, List.set_cons_succ]
                refine wpAnyH_take (i := 19) (oi := { dst := some 114, op := Op.load 24 (Operand.tmp 113), type := 24, pos := _, after := #[{ on := 18, ground := Ground.data }, { on := 10, ground := Ground.guard }], guard := some (10, true) }) (v := _) rfl (by kernel_rfl) (by kernel_rfl) (by kernel_rfl) (fun _ _ _ h => h) (Or.inr ⟨by rfl, rfl⟩) (by assumption) ?_
                simp only [Act.put, List.setIfInBounds_toArray, List.set_cons_zero, List.set_cons_succ]
                refine wpAnyH_take (i := 20) (oi := { dst := some 115, op := Op.move (Operand.tmp 9), type := 3, pos := _, after := #[{ on := 10, ground := Ground.guard }], guard := some (10, true) }) (v := _) rfl (by kernel_rfl) (by kernel_rfl) (by kernel_rfl) (fun _ _ _ h => h) (Or.inr ⟨by rfl, rfl⟩) (by assumption) ?_
                simp only [Act.put, List.setIfInBounds_toArray, List.set_cons_zero, List.set_cons_succ]
                refine wpAnyH_take (i := 21) (oi := { dst := some 116, op := Op.indexAddr 24 (Operand.tmp 114) (Operand.tmp 115), type := 0, pos := _, after := #[{ on := 19, ground := Ground.data }, { on := 20, ground := Ground.data }, { on := 10, ground := Ground.guard }], guard := some (10, true) }) (v := _) rfl (by kernel_rfl) (by kernel_rfl) (by kernel_rfl) (fun _ _ _ h => h) (Or.inr ⟨by rfl, rfl⟩) (by assumption) ?_
                simp only [Act.put, List.setIfInBounds_toArray, List.set_cons_zero, List.set_cons_succ]
                refine wpAnyH_take (i := 22) (oi := { dst := some 117, op := Op.load 22 (Operand.tmp 116), type := 22, pos := _, after := #[{ on := 21, ground := Ground.data }, { on := 10, ground := Ground.guard }], guard := some (10, true) }) (v := _) rfl (by kernel_rfl) (by kernel_rfl) (by kernel_rfl) (fun _ _ _ h => h) (Or.inr ⟨by rfl, rfl⟩) (by assumption) ?_
                simp only [Act.put, List.setIfInBounds_toArray, List.set_cons_zero, List.set_cons_succ]
                refine wpAnyH_take (i := 23) (oi := { dst := some 118, op := Op.convert 22 9 (Operand.tmp 117), type := 9, pos := _, after := #[{ on := 22, ground := Ground.data }, { on := 10, ground := Ground.guard }], guard := some (10, true) }) (v := _) rfl (by kernel_rfl) (by kernel_rfl) (by kernel_rfl) (fun _ _ _ h => h) (Or.inr ⟨by rfl, rfl⟩) (by assumption) ?_
                simp only [Act.put, List.setIfInBounds_toArray, List.set_cons_zero, List.set_cons_succ]
                refine wpAnyH_take (i := 24) (oi := { dst := some 119, op := Op.binOp BinOp.eql 9 (Operand.tmp 112) (Operand.tmp 118) 9, type := 4, pos := _, after := #[{ on := 17, ground := Ground.data }, { on := 23, ground := Ground.data }, { on := 10, ground := Ground.guard }], guard := some (10, true) }) (v := _) rfl (by kernel_rfl) (by kernel_rfl) (by kernel_rfl) (fun _ _ _ h => h) (Or.inr ⟨by rfl, rfl⟩) (by assumption) ?_
                simp only [Act.put, List.setIfInBounds_toArray, List.set_cons_zero, List.set_cons_succ]
                refine wpAnyH_take (i := 25) (oi := { dst := some 120, op := Op.pick (Operand.tmp 105) (Operand.tmp 119) (Operand.const (Value.bool false)), type := 4, pos := _, after := #[{ on := 10, ground := Ground.data }, { on := 24, ground := Ground.data }, { on := 1, ground := Ground.guard }], guard := some (1, false) }) (v := _) rfl (by kernel_rfl) (by kernel_rfl) (by kernel_rfl) (fun _ _ _ h => h) (Or.inr ⟨by rfl, rfl⟩) (by assumption) ?_
                simp only [Act.put, List.setIfInBounds_toArray, List.set_cons_zero, List.set_cons_succ]
                refine wpAnyH_take (i := 26) (oi := { dst := some 121, op := Op.pick (Operand.tmp 96) (Operand.const (Value.bool true)) (Operand.tmp 120), type := 4, pos := _, after := #[{ on := 1, ground := Ground.data }, { on := 25, ground := Ground.data }], guard := none }) (v := ?_) rfl (by kernel_rfl) (by kernel_rfl) (by kernel_rfl) (fun _ _ _ h => h) (Or.inl ⟨by rfl, ?_⟩) (by assumption) ?_
                rotate_left
                · intro w9 hSw
                  try dsimp only at hSw
                  go_simp
                  try with_reducible rfl
                simp only [Act.put, List.setIfInBounds_toArray, List.set_cons_zero, List.set_cons_succ]
                refine wpAnyH_take (i := 27) (oi := { dst := some 10, op := Op.assign (Operand.tmp 121), type := 4, pos := _, after := #[{ on := 26, ground := Ground.data }, { on := 10, ground := Ground.chain }, { on := 0, ground := Ground.phase }, { on := 1, ground := Ground.phase }, { on := 2, ground := Ground.phase }, { on := 3, ground := Ground.phase }, { on := 4, ground := Ground.phase }, { on := 5, ground := Ground.phase }, { on := 6, ground := Ground.phase }, { on := 7, ground := Ground.phase }, { on := 8, ground := Ground.phase }, { on := 9, ground := Ground.phase }, { on := 10, ground := Ground.phase }, { on := 11, ground := Ground.phase }, { on := 12, ground := Ground.phase }, { on := 13, ground := Ground.phase }, { on := 14, ground := Ground.phase }, { on := 15, ground := Ground.phase }, { on := 16, ground := Ground.phase }, { on := 17, ground := Ground.phase }, { on := 18, ground := Ground.phase }, { on := 19, ground := Ground.phase }, { on := 20, ground := Ground.phase }, { on := 21, ground := Ground.phase }, { on := 22, ground := Ground.phase }, { on := 23, ground := Ground.phase }, { on := 24, ground := Ground.phase }, { on := 25, ground := Ground.phase }, { on := 26, ground := Ground.phase }], guard := none }) (v := ?_) rfl (by kernel_rfl) (by kernel_rfl) (by kernel_rfl) (fun _ _ _ h => h) (Or.inl ⟨by rfl, ?_⟩) (by assumption) ?_
                rotate_left
                · intro w9 hSw
                  try dsimp only at hSw
                  go_simp
                  try with_reducible rfl
                simp only [Act.put, List.setIfInBounds_toArray, List.set_cons_zero, List.set_cons_succ]
                refine wpAnyH_done (by kernel_rfl) ?_ _
                clear hHeld KK0
                have HB4 : Hd (Below wc.heap.size wc wr.drew) := ⟨HB3.out.trans (Below.mono E0.out HB3.out.size)⟩
                have HV4 : Hd (mayB S2 (S2.toList == S1.toList) (k : Int) dx.cache (j + 1) = true) := ⟨by rw [HST.out]; simp⟩
                clear HB3 HST E0 HPC HSC HTC HXC HPZ3 HVm
                go_wp2_with fail
                go_roundw
                case rel => exact ⟨j + 1, by omega, by go_num, true, rfl, HV4, HB4⟩
                case measure => simp [intOf]; omega
            · have hj2 : ¬ (j : Int) < (Xm1 : Int) := by omega
              obtain rfl : V = true := by rw [← HVm.out, show j = dx.cache.length from by have := HLen.out; omega]; exact HMay.out
              have HB5 : Hd (Below wt.heap.size wt wr) := ⟨Below.next BQ.out HB3.out⟩
              clear HB3 HVm HMay BQ HBL HB2
              go_wp2_with fail
              go_roundw
              case rel => exact ⟨k + 1, by omega, by go_num, HB5⟩
              case measure => simp [intOf]; omega
      · have hge : ¬ (k : Int) < (Am0 : Int) := by omega
        go_wp2_with fail
        clear ca0
        have HRn : Hd (readD dx n = [y3, y4]) := ⟨by
          have hin : inSecs d n = true := by have h1 := HM.out.1; have h3 := HNN.out; unfold inSecs; exact decide_eq_true (by omega)
          rw [← HX.out, write_read HD.out.1 hin (by simp) hin, if_pos rfl]⟩
        obtain ⟨SB, hSB⟩ : ∃ S, strB [y3, y4] = S := ⟨_, rfl⟩
        have HSB : Hd (strB [y3, y4] = SB) := ⟨hSB⟩
        clear hSB
        have HZo : Hd (devOk dz = true ∧ dz.down = false) := ⟨by obtain ⟨kp, hkp⟩ := HZk.out; rw [hkp]; exact fall_ok HXo.out⟩
        have hzd : (!dz.down) = true := by rw [HZo.out.2]; rfl
        have HYr : Hd (RdB wr [.slice (some ⟨gb, 0, none⟩) 2 2] [y3, y4]) := ⟨rdB_ok.below HY_wt.out HBL.out⟩
        have hf0 : Fm1 = 0 := by
          have h1 := (dev_lens F_1.out.lo).2
          have h2 := (flush_read (i := 0) HFx.out.ok HFx.out.up HFx.out.fuse (by have h3 := HLen.out.1; have h4 := HM.out; unfold inSecs; exact decide_eq_true (by omega))).2
          rw [HF.out] at h2
          rw [h2] at h1
          exact h1.symm
        have hfb : ((Fm1 : Int) == 0) = true := by rw [hf0]; rfl
        clear hf0
        have KK0 : Hd (∀ w', Below wr.heap.size wr w' → (w'.cell? ⟨bX, 0, none⟩ = some (.slice (some ⟨xb, xo, none⟩) Xm0 Xe0) ∧ w'.cell? ⟨bX, 1, none⟩ = some (.slice (some ⟨xb1, xo1, none⟩) Xm1 Xe1) ∧ w'.cell? ⟨bX, 2, none⟩ = some (.int .i64 dx.fuse) ∧ w'.cell? ⟨bX, 3, none⟩ = some (.bool dx.down) ∧ w'.cell? ⟨bZ, 0, none⟩ = some (.slice (some ⟨zb, zo, none⟩) Zm0 Ze0) ∧ w'.cell? ⟨bZ, 1, none⟩ = some (.slice Zx1 Zm1 Ze1) ∧ w'.cell? ⟨bZ, 2, none⟩ = some (.int .i64 dz.fuse) ∧ w'.cell? ⟨bZ, 3, none⟩ = some (.bool dz.down) ∧ w'.cell? ⟨bF, 1, none⟩ = some (.slice Fx1 Fm1 Fe1) ∧ (convert 22 9 (.slice (some ⟨gb, 0, none⟩) 2 2)).run Try.prog w' = .ok (.string SB) w')) := ⟨fun w' hb => ⟨cell_below (cellsA x_0.out.box 0 rfl) hb, cell_below (cellsA x_0.out.box 1 rfl) hb, cell_below (cellsA x_0.out.box 2 rfl) hb, cell_below (cellsA x_0.out.box 3 rfl) hb, cell_below (cellsA z_0.out.box 0 rfl) hb, cell_below (cellsA z_0.out.box 1 rfl) hb, cell_below (cellsA z_0.out.box 2 rfl) hb, cell_below (cellsA z_0.out.box 3 rfl) hb, cell_below (cellsA f_0.out.box 1 rfl) hb, Reads.conv_eq (rdB_parts (rdB_ok.below HYr.out hb)).2 2 HSB.out⟩⟩
        refine wp_region_held_drew (S := fun w' => (w'.cell? ⟨bX, 0, none⟩ = some (.slice (some ⟨xb, xo, none⟩) Xm0 Xe0) ∧ w'.cell? ⟨bX, 1, none⟩ = some (.slice (some ⟨xb1, xo1, none⟩) Xm1 Xe1) ∧ w'.cell? ⟨bX, 2, none⟩ = some (.int .i64 dx.fuse) ∧ w'.cell? ⟨bX, 3, none⟩ = some (.bool dx.down) ∧ w'.cell? ⟨bZ, 0, none⟩ = some (.slice (some ⟨zb, zo, none⟩) Zm0 Ze0) ∧ w'.cell? ⟨bZ, 1, none⟩ = some (.slice Zx1 Zm1 Ze1) ∧ w'.cell? ⟨bZ, 2, none⟩ = some (.int .i64 dz.fuse) ∧ w'.cell? ⟨bZ, 3, none⟩ = some (.bool dz.down) ∧ w'.cell? ⟨bF, 1, none⟩ = some (.slice Fx1 Fm1 Fe1) ∧ (convert 22 9 (.slice (some ⟨gb, 0, none⟩) 2 2)).run Try.prog w' = .ok (.string SB) w')) (by kernel_rfl) (KK0.out _ (Below.refl _ wr).drew) (fun hHeld => ?_)
        have E0 : Hd (Below wr.heap.size wr wr.drew) := ⟨(Below.refl _ wr).drew⟩
        refine wpAnyH_take (i := 0) (oi := { dst := some 124, op := Op.load 27 (Operand.tmp 6), type := 27, pos := _, after := #[], guard := none }) (v := ?_) rfl (by kernel_rfl) (by kernel_rfl) (by kernel_rfl) (fun _ _ _ h => h) (Or.inl ⟨by rfl, ?_⟩) (by assumption) ?_
        rotate_left
        · intro w9 hSw
          try dsimp only at hSw
          go_simp
          try with_reducible rfl
        simp only [Act.put, List.setIfInBounds_toArray, List.set_cons_zero, List.set_cons_succ]
        refine wpAnyH_take (i := 1) (oi := { dst := some 125, op := Op.move (Operand.tmp 4), type := 3, pos := _, after := #[], guard := none }) (v := ?_) rfl (by kernel_rfl) (by kernel_rfl) (by kernel_rfl) (fun _ _ _ h => h) (Or.inl ⟨by rfl, ?_⟩) (by assumption) ?_
        rotate_left
        · intro w9 hSw
          try dsimp only at hSw
          go_simp
          try with_reducible rfl
        simp only [Act.put, List.setIfInBounds_toArray, List.set_cons_zero, List.set_cons_succ]
        refine wpAnyH_take (i := 4) (oi := { dst := some 128, op := Op.move (Operand.tmp 5), type := 22, pos := _, after := #[], guard := none }) (v := ?_) rfl (by kernel_rfl) (by kernel_rfl) (by kernel_rfl) (fun _ _ _ h => h) (Or.inl ⟨by rfl, ?_⟩) (by assumption) ?_
        rotate_left
        · intro w9 hSw
          try dsimp only at hSw
          go_simp
          try with_reducible rfl
        simp only [Act.put, List.setIfInBounds_toArray, List.set_cons_zero, List.set_cons_succ]
        refine wpAnyH_take (i := 5) (oi := { dst := some 129, op := Op.convert 22 9 (Operand.tmp 128), type := 9, pos := _, after := #[{ on := 4, ground := Ground.data }], guard := none }) (v := ?_) rfl (by kernel_rfl) (by kernel_rfl) (by kernel_rfl) (fun _ _ _ h => h) (Or.inl ⟨by rfl, ?_⟩) (by assumption) ?_
        rotate_left
        · intro w9 hSw
          try dsimp only at hSw
          go_simp
          try with_reducible rfl
        simp only [Act.put, List.setIfInBounds_toArray, List.set_cons_zero, List.set_cons_succ]
        refine wpAnyH_ready (rs := [2]) (by kernel_rfl) (by simp) ?_
        refine AllReadyH.cons rfl (fun K hK => ?_) AllReadyH.nil
        clear hHeld
        rw [if_pos (by rfl)]
        go_wp2_with (go_at_call 11; (refine (implReadSec_ow _ dx n _ (x_0.out.below rdDev_ok E0.out).lo).mono ?_; rintro e q1 ⟨⟨ra, rl, rc, rfl, GR, hER, _⟩, hb⟩))
        have HRB : Hd (RdB q1 [.slice ra rl rc] (readD dx n)) := ⟨owB_ok.rd hER⟩
        clear hER
        have E1 : Hd (Below wr.heap.size wr q1) := ⟨Below.next E0.out hb⟩
        have hS9 := KK0.out _ (E1.out)
        have hbx := hb
        clear hb
        have KK1 : Hd (∀ w', Below q1.heap.size q1 w' → ((w'.cell? ⟨bX, 0, none⟩ = some (.slice (some ⟨xb, xo, none⟩) Xm0 Xe0) ∧ w'.cell? ⟨bX, 1, none⟩ = some (.slice (some ⟨xb1, xo1, none⟩) Xm1 Xe1) ∧ w'.cell? ⟨bX, 2, none⟩ = some (.int .i64 dx.fuse) ∧ w'.cell? ⟨bX, 3, none⟩ = some (.bool dx.down) ∧ w'.cell? ⟨bZ, 0, none⟩ = some (.slice (some ⟨zb, zo, none⟩) Zm0 Ze0) ∧ w'.cell? ⟨bZ, 1, none⟩ = some (.slice Zx1 Zm1 Ze1) ∧ w'.cell? ⟨bZ, 2, none⟩ = some (.int .i64 dz.fuse) ∧ w'.cell? ⟨bZ, 3, none⟩ = some (.bool dz.down) ∧ w'.cell? ⟨bF, 1, none⟩ = some (.slice Fx1 Fm1 Fe1) ∧ (convert 22 9 (.slice (some ⟨gb, 0, none⟩) 2 2)).run Try.prog w' = .ok (.string SB) w') ∧ (convert 22 9 (.slice ra rl rc)).run Try.prog w' = .ok (.string SB) w')) := ⟨fun w' hb => ⟨KK0.out w' (Below.next E1.out hb), Reads.conv_eq (rdB_parts (rdB_ok.below HRB.out hb)).2 rc (by rw [HRn.out]; exact HSB.out)⟩⟩
        refine hK.out _ _ hS9 (fun _ => ?_)
        clear hK K hS9
        have hHeld := KK1.out _ (Below.refl _ q1)
        refine wpAnyH_more (S' := fun w' => ((w'.cell? ⟨bX, 0, none⟩ = some (.slice (some ⟨xb, xo, none⟩) Xm0 Xe0) ∧ w'.cell? ⟨bX, 1, none⟩ = some (.slice (some ⟨xb1, xo1, none⟩) Xm1 Xe1) ∧ w'.cell? ⟨bX, 2, none⟩ = some (.int .i64 dx.fuse) ∧ w'.cell? ⟨bX, 3, none⟩ = some (.bool dx.down) ∧ w'.cell? ⟨bZ, 0, none⟩ = some (.slice (some ⟨zb, zo, none⟩) Zm0 Ze0) ∧ w'.cell? ⟨bZ, 1, none⟩ = some (.slice Zx1 Zm1 Ze1) ∧ w'.cell? ⟨bZ, 2, none⟩ = some (.int .i64 dz.fuse) ∧ w'.cell? ⟨bZ, 3, none⟩ = some (.bool dz.down) ∧ w'.cell? ⟨bF, 1, none⟩ = some (.slice Fx1 Fm1 Fe1) ∧ (convert 22 9 (.slice (some ⟨gb, 0, none⟩) 2 2)).run Try.prog w' = .ok (.string SB) w') ∧ (convert 22 9 (.slice ra rl rc)).run Try.prog w' = .ok (.string SB) w')) (fun w' h => h.1) _ _ _ _ ?_
        clear hbx KK0
        refine wpAnyH_take (i := 3) (oi := { dst := some 127, op := Op.convert 22 9 (Operand.tmp 126), type := 9, pos := _, after := #[{ on := 2, ground := Ground.data }], guard := none }) (v := ?_) rfl (by kernel_rfl) (by kernel_rfl) (by kernel_rfl) (fun _ _ _ h => h) (Or.inl ⟨by rfl, ?_⟩) (by assumption) ?_
        rotate_left
        · intro w9 hSw
          try dsimp only at hSw
          go_simp
          try with_reducible rfl
        simp only [Act.put, List.setIfInBounds_toArray, List.set_cons_zero, List.set_cons_succ]
        refine wpAnyH_take (i := 6) (oi := { dst := some 130, op := Op.binOp BinOp.eql 9 (Operand.tmp 127) (Operand.tmp 129) 9, type := 4, pos := _, after := #[{ on := 3, ground := Ground.data }, { on := 5, ground := Ground.data }], guard := none }) (v := ?_) rfl (by kernel_rfl) (by kernel_rfl) (by kernel_rfl) (fun _ _ _ h => h) (Or.inl ⟨by rfl, ?_⟩) (by assumption) ?_
        rotate_left
        · intro w9 hSw
          try dsimp only at hSw
          go_simp
          try with_reducible rfl
        simp only [Act.put, List.setIfInBounds_toArray, List.set_cons_zero, List.set_cons_succ]
        refine wpAnyH_take (i := 7) (oi := { dst := some 131, op := Op.move (Operand.tmp 130), type := 4, pos := _, after := #[{ on := 6, ground := Ground.data }, { on := 2, ground := Ground.chain }], guard := none }) (v := ?_) rfl (by kernel_rfl) (by kernel_rfl) (by kernel_rfl) (fun _ _ _ h => h) (Or.inl ⟨by rfl, ?_⟩) (by assumption) ?_
        rotate_left
        · intro w9 hSw
          try dsimp only at hSw
          go_simp
          try with_reducible rfl
        simp only [Act.put, List.setIfInBounds_toArray, List.set_cons_zero, List.set_cons_succ]
        refine wpAnyH_take (i := 8) (oi := { dst := some 132, op := Op.load 27 (Operand.tmp 6), type := 27, pos := _, after := #[{ on := 7, ground := Ground.guard }], guard := some (7, true) }) (v := ?_) rfl (by kernel_rfl) (by kernel_rfl) (by kernel_rfl) (fun _ _ _ h => h) (Or.inl ⟨by rfl, ?_⟩) (by assumption) ?_
        rotate_left
        · intro w9 hSw
          try dsimp only at hSw
          go_simp
          try with_reducible rfl
        simp only [Act.put, List.setIfInBounds_toArray, List.set_cons_zero, List.set_cons_succ]
        refine wpAnyH_ready (rs := [9]) (by kernel_rfl) (by simp) ?_
        refine AllReadyH.cons rfl (fun K hK => ?_) AllReadyH.nil
        clear hHeld
        rw [if_pos (by rfl)]
        go_wp2_with (go_at_call 12; (refine (implDevOk_rd _ dx _ (x_0.out.below rdDev_ok E1.out).lo).mono ?_; rintro e q2 ⟨rfl, hb⟩; rewrite [HXo.out]))
        have E2 : Hd (Below wr.heap.size wr q2) := ⟨Below.next E1.out hb⟩
        have hS9 := KK1.out _ (hb)
        have hbx := hb
        clear hb
        have KK2 : Hd (∀ w', Below q2.heap.size q2 w' → (((w'.cell? ⟨bX, 0, none⟩ = some (.slice (some ⟨xb, xo, none⟩) Xm0 Xe0) ∧ w'.cell? ⟨bX, 1, none⟩ = some (.slice (some ⟨xb1, xo1, none⟩) Xm1 Xe1) ∧ w'.cell? ⟨bX, 2, none⟩ = some (.int .i64 dx.fuse) ∧ w'.cell? ⟨bX, 3, none⟩ = some (.bool dx.down) ∧ w'.cell? ⟨bZ, 0, none⟩ = some (.slice (some ⟨zb, zo, none⟩) Zm0 Ze0) ∧ w'.cell? ⟨bZ, 1, none⟩ = some (.slice Zx1 Zm1 Ze1) ∧ w'.cell? ⟨bZ, 2, none⟩ = some (.int .i64 dz.fuse) ∧ w'.cell? ⟨bZ, 3, none⟩ = some (.bool dz.down) ∧ w'.cell? ⟨bF, 1, none⟩ = some (.slice Fx1 Fm1 Fe1) ∧ (convert 22 9 (.slice (some ⟨gb, 0, none⟩) 2 2)).run Try.prog w' = .ok (.string SB) w') ∧ (convert 22 9 (.slice ra rl rc)).run Try.prog w' = .ok (.string SB) w'))) := ⟨fun w' hb => KK1.out w' (Below.next hbx hb)⟩
        refine hK.out _ _ hS9 (fun _ => ?_)
        clear hK K hS9
        have hHeld := KK2.out _ (Below.refl _ q2)
        refine wpAnyH_more (S' := fun w' => (((w'.cell? ⟨bX, 0, none⟩ = some (.slice (some ⟨xb, xo, none⟩) Xm0 Xe0) ∧ w'.cell? ⟨bX, 1, none⟩ = some (.slice (some ⟨xb1, xo1, none⟩) Xm1 Xe1) ∧ w'.cell? ⟨bX, 2, none⟩ = some (.int .i64 dx.fuse) ∧ w'.cell? ⟨bX, 3, none⟩ = some (.bool dx.down) ∧ w'.cell? ⟨bZ, 0, none⟩ = some (.slice (some ⟨zb, zo, none⟩) Zm0 Ze0) ∧ w'.cell? ⟨bZ, 1, none⟩ = some (.slice Zx1 Zm1 Ze1) ∧ w'.cell? ⟨bZ, 2, none⟩ = some (.int .i64 dz.fuse) ∧ w'.cell? ⟨bZ, 3, none⟩ = some (.bool dz.down) ∧ w'.cell? ⟨bF, 1, none⟩ = some (.slice Fx1 Fm1 Fe1) ∧ (convert 22 9 (.slice (some ⟨gb, 0, none⟩) 2 2)).run Try.prog w' = .ok (.string SB) w') ∧ (convert 22 9 (.slice ra rl rc)).run Try.prog w' = .ok (.string SB) w'))) (fun w' h => h) _ _ _ _ ?_
        clear hbx KK1
        refine wpAnyH_take (i := 10) (oi := { dst := some 134, op := Op.pick (Operand.tmp 131) (Operand.tmp 133) (Operand.const (Value.bool false)), type := 4, pos := _, after := #[{ on := 7, ground := Ground.data }, { on := 9, ground := Ground.data }], guard := none }) (v := ?_) rfl (by kernel_rfl) (by kernel_rfl) (by kernel_rfl) (fun _ _ _ h => h) (Or.inl ⟨by rfl, ?_⟩) (by assumption) ?_
        rotate_left
        · intro w9 hSw
          try dsimp only at hSw
          go_simp
          try with_reducible rfl
        simp only [Act.put, List.setIfInBounds_toArray, List.set_cons_zero, List.set_cons_succ]
        refine wpAnyH_take (i := 11) (oi := { dst := some 135, op := Op.move (Operand.tmp 134), type := 4, pos := _, after := #[{ on := 10, ground := Ground.data }, { on := 9, ground := Ground.chain }], guard := none }) (v := ?_) rfl (by kernel_rfl) (by kernel_rfl) (by kernel_rfl) (fun _ _ _ h => h) (Or.inl ⟨by rfl, ?_⟩) (by assumption) ?_
        rotate_left
        · intro w9 hSw
          try dsimp only at hSw
          go_simp
          try with_reducible rfl
        simp only [Act.put, List.setIfInBounds_toArray, List.set_cons_zero, List.set_cons_succ]
        refine wpAnyH_take (i := 12) (oi := { dst := some 136, op := Op.fieldAddr 27 (Operand.tmp 7) 1, type := 0, pos := _, after := #[{ on := 11, ground := Ground.guard }], guard := some (11, true) }) (v := ?_) rfl (by kernel_rfl) (by kernel_rfl) (by kernel_rfl) (fun _ _ _ h => h) (Or.inl ⟨by rfl, ?_⟩) (by assumption) ?_
        rotate_left
        · intro w9 hSw
          try dsimp only at hSw
          go_simp
          try with_reducible rfl
        simp only [Act.put, List.setIfInBounds_toArray, List.set_cons_zero, List.set_cons_succ]
        refine wpAnyH_take (i := 13) (oi := { dst := some 137, op := Op.load 25 (Operand.tmp 136), type := 25, pos := _, after := #[{ on := 12, ground := Ground.data }, { on := 11, ground := Ground.guard }], guard := some (11, true) }) (v := ?_) rfl (by kernel_rfl) (by kernel_rfl) (by kernel_rfl) (fun _ _ _ h => h) (Or.inl ⟨by rfl, ?_⟩) (by assumption) ?_
        rotate_left
        · intro w9 hSw
          try dsimp only at hSw
          go_simp
          try with_reducible rfl
        simp only [Act.put, List.setIfInBounds_toArray, List.set_cons_zero, List.set_cons_succ]
        refine wpAnyH_take (i := 14) (oi := { dst := some 138, op := Op.call { callee := Callee.builtin Builtin.len, args := #[Operand.tmp 137], argTypes := #[25] }, type := 3, pos := _, after := #[{ on := 13, ground := Ground.data }, { on := 11, ground := Ground.guard }], guard := some (11, true) }) (v := ?_) rfl (by kernel_rfl) (by kernel_rfl) (by kernel_rfl) (fun _ _ _ h => h) (Or.inl ⟨by rfl, ?_⟩) (by assumption) ?_
        rotate_left
        · intro w9 hSw
          try dsimp only at hSw
          go_simp
          try with_reducible rfl
        simp only [Act.put, List.setIfInBounds_toArray, List.set_cons_zero, List.set_cons_succ]
        refine wpAnyH_take (i := 15) (oi := { dst := some 139, op := Op.binOp BinOp.eql 3 (Operand.tmp 138) (Operand.const (Value.int IntKind.i64 0)) 3, type := 4, pos := _, after := #[{ on := 14, ground := Ground.data }, { on := 11, ground := Ground.guard }], guard := some (11, true) }) (v := ?_) rfl (by kernel_rfl) (by kernel_rfl) (by kernel_rfl) (fun _ _ _ h => h) (Or.inl ⟨by rfl, ?_⟩) (by assumption) ?_
        rotate_left
        · intro w9 hSw
          try dsimp only at hSw
          go_simp
          try with_reducible rfl
        simp only [Act.put, List.setIfInBounds_toArray, List.set_cons_zero, List.set_cons_succ]
        refine wpAnyH_take (i := 16) (oi := { dst := some 140, op := Op.pick (Operand.tmp 135) (Operand.tmp 139) (Operand.const (Value.bool false)), type := 4, pos := _, after := #[{ on := 11, ground := Ground.data }, { on := 15, ground := Ground.data }], guard := none }) (v := ?_) rfl (by kernel_rfl) (by kernel_rfl) (by kernel_rfl) (fun _ _ _ h => h) (Or.inl ⟨by rfl, ?_⟩) (by assumption) ?_
        rotate_left
        · intro w9 hSw
          try dsimp only at hSw
          go_simp
          try with_reducible rfl
        simp only [Act.put, List.setIfInBounds_toArray, List.set_cons_zero, List.set_cons_succ]
        refine wpAnyH_take (i := 17) (oi := { dst := some 141, op := Op.move (Operand.tmp 140), type := 4, pos := _, after := #[{ on := 16, ground := Ground.data }, { on := 11, ground := Ground.chain }], guard := none }) (v := ?_) rfl (by kernel_rfl) (by kernel_rfl) (by kernel_rfl) (fun _ _ _ h => h) (Or.inl ⟨by rfl, ?_⟩) (by assumption) ?_
        rotate_left
        · intro w9 hSw
          try dsimp only at hSw
          go_simp
          try with_reducible rfl
        simp only [Act.put, List.setIfInBounds_toArray, List.set_cons_zero, List.set_cons_succ]
        refine wpAnyH_take (i := 18) (oi := { dst := some 142, op := Op.load 27 (Operand.tmp 8), type := 27, pos := _, after := #[{ on := 17, ground := Ground.guard }], guard := some (17, true) }) (v := ?_) rfl (by kernel_rfl) (by kernel_rfl) (by kernel_rfl) (fun _ _ _ h => h) (Or.inl ⟨by rfl, ?_⟩) (by assumption) ?_
        rotate_left
        · intro w9 hSw
          try dsimp only at hSw
          go_simp
          try with_reducible rfl
        simp only [Act.put, List.setIfInBounds_toArray, List.set_cons_zero, List.set_cons_succ]
        refine wpAnyH_ready (rs := [19]) (by kernel_rfl) (by simp) ?_
        refine AllReadyH.cons rfl (fun K hK => ?_) AllReadyH.nil
        clear hHeld
        rw [if_pos (by rfl)]
        go_wp2_with (go_at_call 12; (refine (implDevOk_rd _ dz _ (z_0.out.below rdDev_ok E2.out).lo).mono ?_; rintro e q3 ⟨rfl, hb⟩; rewrite [HZo.out.1]))
        have E3 : Hd (Below wr.heap.size wr q3) := ⟨Below.next E2.out hb⟩
        have hS9 := KK2.out _ (hb)
        have hbx := hb
        clear hb
        have KK3 : Hd (∀ w', Below q3.heap.size q3 w' → ((((w'.cell? ⟨bX, 0, none⟩ = some (.slice (some ⟨xb, xo, none⟩) Xm0 Xe0) ∧ w'.cell? ⟨bX, 1, none⟩ = some (.slice (some ⟨xb1, xo1, none⟩) Xm1 Xe1) ∧ w'.cell? ⟨bX, 2, none⟩ = some (.int .i64 dx.fuse) ∧ w'.cell? ⟨bX, 3, none⟩ = some (.bool dx.down) ∧ w'.cell? ⟨bZ, 0, none⟩ = some (.slice (some ⟨zb, zo, none⟩) Zm0 Ze0) ∧ w'.cell? ⟨bZ, 1, none⟩ = some (.slice Zx1 Zm1 Ze1) ∧ w'.cell? ⟨bZ, 2, none⟩ = some (.int .i64 dz.fuse) ∧ w'.cell? ⟨bZ, 3, none⟩ = some (.bool dz.down) ∧ w'.cell? ⟨bF, 1, none⟩ = some (.slice Fx1 Fm1 Fe1) ∧ (convert 22 9 (.slice (some ⟨gb, 0, none⟩) 2 2)).run Try.prog w' = .ok (.string SB) w') ∧ (convert 22 9 (.slice ra rl rc)).run Try.prog w' = .ok (.string SB) w')))) := ⟨fun w' hb => KK2.out w' (Below.next hbx hb)⟩
        refine hK.out _ _ hS9 (fun _ => ?_)
        clear hK K hS9
        have hHeld := KK3.out _ (Below.refl _ q3)
        refine wpAnyH_more (S' := fun w' => ((((w'.cell? ⟨bX, 0, none⟩ = some (.slice (some ⟨xb, xo, none⟩) Xm0 Xe0) ∧ w'.cell? ⟨bX, 1, none⟩ = some (.slice (some ⟨xb1, xo1, none⟩) Xm1 Xe1) ∧ w'.cell? ⟨bX, 2, none⟩ = some (.int .i64 dx.fuse) ∧ w'.cell? ⟨bX, 3, none⟩ = some (.bool dx.down) ∧ w'.cell? ⟨bZ, 0, none⟩ = some (.slice (some ⟨zb, zo, none⟩) Zm0 Ze0) ∧ w'.cell? ⟨bZ, 1, none⟩ = some (.slice Zx1 Zm1 Ze1) ∧ w'.cell? ⟨bZ, 2, none⟩ = some (.int .i64 dz.fuse) ∧ w'.cell? ⟨bZ, 3, none⟩ = some (.bool dz.down) ∧ w'.cell? ⟨bF, 1, none⟩ = some (.slice Fx1 Fm1 Fe1) ∧ (convert 22 9 (.slice (some ⟨gb, 0, none⟩) 2 2)).run Try.prog w' = .ok (.string SB) w') ∧ (convert 22 9 (.slice ra rl rc)).run Try.prog w' = .ok (.string SB) w')))) (fun w' h => h) _ _ _ _ ?_
        clear hbx KK2
        refine wpAnyH_take (i := 20) (oi := { dst := some 144, op := Op.pick (Operand.tmp 141) (Operand.tmp 143) (Operand.const (Value.bool false)), type := 4, pos := _, after := #[{ on := 17, ground := Ground.data }, { on := 19, ground := Ground.data }], guard := none }) (v := ?_) rfl (by kernel_rfl) (by kernel_rfl) (by kernel_rfl) (fun _ _ _ h => h) (Or.inl ⟨by rfl, ?_⟩) (by assumption) ?_
        rotate_left
        · intro w9 hSw
          try dsimp only at hSw
          go_simp
          try with_reducible rfl
        simp only [Act.put, List.setIfInBounds_toArray, List.set_cons_zero, List.set_cons_succ]
        refine wpAnyH_take (i := 21) (oi := { dst := some 145, op := Op.move (Operand.tmp 144), type := 4, pos := _, after := #[{ on := 20, ground := Ground.data }, { on := 19, ground := Ground.chain }], guard := none }) (v := ?_) rfl (by kernel_rfl) (by kernel_rfl) (by kernel_rfl) (fun _ _ _ h => h) (Or.inl ⟨by rfl, ?_⟩) (by assumption) ?_
        rotate_left
        · intro w9 hSw
          try dsimp only at hSw
          go_simp
          try with_reducible rfl
        simp only [Act.put, List.setIfInBounds_toArray, List.set_cons_zero, List.set_cons_succ]
        refine wpAnyH_take (i := 22) (oi := { dst := some 146, op := Op.fieldAddr 27 (Operand.tmp 8) 3, type := 0, pos := _, after := #[{ on := 21, ground := Ground.guard }], guard := some (21, true) }) (v := ?_) rfl (by kernel_rfl) (by kernel_rfl) (by kernel_rfl) (fun _ _ _ h => h) (Or.inl ⟨by rfl, ?_⟩) (by assumption) ?_
        rotate_left
        · intro w9 hSw
          try dsimp only at hSw
          go_simp
          try with_reducible rfl
        simp only [Act.put, List.setIfInBounds_toArray, List.set_cons_zero, List.set_cons_succ]
        refine wpAnyH_take (i := 23) (oi := { dst := some 147, op := Op.load 4 (Operand.tmp 146), type := 4, pos := _, after := #[{ on := 22, ground := Ground.data }, { on := 21, ground := Ground.guard }], guard := some (21, true) }) (v := ?_) rfl (by kernel_rfl) (by kernel_rfl) (by kernel_rfl) (fun _ _ _ h => h) (Or.inl ⟨by rfl, ?_⟩) (by assumption) ?_
        rotate_left
        · intro w9 hSw
          try dsimp only at hSw
          go_simp
          try with_reducible rfl
        simp only [Act.put, List.setIfInBounds_toArray, List.set_cons_zero, List.set_cons_succ]
        refine wpAnyH_take (i := 24) (oi := { dst := some 148, op := Op.unOp UnOp.not 4 (Operand.tmp 147), type := 4, pos := _, after := #[{ on := 23, ground := Ground.data }, { on := 21, ground := Ground.guard }], guard := some (21, true) }) (v := ?_) rfl (by kernel_rfl) (by kernel_rfl) (by kernel_rfl) (fun _ _ _ h => h) (Or.inl ⟨by rfl, ?_⟩) (by assumption) ?_
        rotate_left
        · intro w9 hSw
          try dsimp only at hSw
          go_simp
          try with_reducible rfl
        simp only [Act.put, List.setIfInBounds_toArray, List.set_cons_zero, List.set_cons_succ]
        refine wpAnyH_take (i := 25) (oi := { dst := some 149, op := Op.pick (Operand.tmp 145) (Operand.tmp 148) (Operand.const (Value.bool false)), type := 4, pos := _, after := #[{ on := 21, ground := Ground.data }, { on := 24, ground := Ground.data }], guard := none }) (v := ?_) rfl (by kernel_rfl) (by kernel_rfl) (by kernel_rfl) (fun _ _ _ h => h) (Or.inl ⟨by rfl, ?_⟩) (by assumption) ?_
        rotate_left
        · intro w9 hSw
          try dsimp only at hSw
          go_simp
          try with_reducible rfl
        simp only [Act.put, List.setIfInBounds_toArray, List.set_cons_zero, List.set_cons_succ]
        refine wpAnyH_take (i := 26) (oi := { dst := some 2, op := Op.assign (Operand.tmp 149), type := 4, pos := _, after := #[{ on := 25, ground := Ground.data }, { on := 21, ground := Ground.chain }, { on := 0, ground := Ground.phase }, { on := 1, ground := Ground.phase }, { on := 2, ground := Ground.phase }, { on := 3, ground := Ground.phase }, { on := 4, ground := Ground.phase }, { on := 5, ground := Ground.phase }, { on := 6, ground := Ground.phase }, { on := 7, ground := Ground.phase }, { on := 8, ground := Ground.phase }, { on := 9, ground := Ground.phase }, { on := 10, ground := Ground.phase }, { on := 11, ground := Ground.phase }, { on := 12, ground := Ground.phase }, { on := 13, ground := Ground.phase }, { on := 14, ground := Ground.phase }, { on := 15, ground := Ground.phase }, { on := 16, ground := Ground.phase }, { on := 17, ground := Ground.phase }, { on := 18, ground := Ground.phase }, { on := 19, ground := Ground.phase }, { on := 20, ground := Ground.phase }, { on := 21, ground := Ground.phase }, { on := 22, ground := Ground.phase }, { on := 23, ground := Ground.phase }, { on := 24, ground := Ground.phase }, { on := 25, ground := Ground.phase }], guard := none }) (v := ?_) rfl (by kernel_rfl) (by kernel_rfl) (by kernel_rfl) (fun _ _ _ h => h) (Or.inl ⟨by rfl, ?_⟩) (by assumption) ?_
        rotate_left
        · intro w9 hSw
          try dsimp only at hSw
          go_simp
          try with_reducible rfl
        simp only [Act.put, List.setIfInBounds_toArray, List.set_cons_zero, List.set_cons_succ]
        refine wpAnyH_done (by kernel_rfl) ?_ _
        clear hHeld KK3
        go_wp2_with fail
        go_ret
        exact ⟨rfl, Below.next BW_wt.out (Below.next HBL.out E3.out)⟩

set_option maxRecDepth 100000 in
theorem lifted (os : Os) (started : os.Started) (H : Type) (enc : TypeId × Value → H) :
    ReturnsInHanded {} Try.checked os 3 .any (Rows.fnDevsSpec.pre6 enc Try.prog Try.f3 Rows.fnDevsRow.domain false) (Rows.fnDevsSpec.post enc Try.prog Try.f3 false true false false) := by
  refine returnsInHanded_of_change (C := Try.checked) own started (by kernel_rfl) Try.func3
    (ChangeSpec.witness6 (enc := enc) (C := Try.checked) false ⟨#[], #[.slice none 0 0], []⟩ 8 (by kernel_rfl) (by kernel_rfl) (by kernel_rfl) (by kernel_rfl)) ?_
  intro W base args ds gs before hval0 hW hcnd _
  have hval : ∀ (j : Nat) t v, Try.f3.params[j]? = some t → args[j]? = some v → Value.okWide Try.prog W .any base t v := hval0
  have hW' := hW
  obtain ⟨p, q, hA0, hV, rfl, hfz, hnd⟩ := hW
  have hA : DataW.TrodAll enc Try.prog W 0 (fun _ => true) true Try.f3.params.toList args.toList ds p := hA0
  rw [Try.params3] at hA hval
  obtain ⟨v0, vs0, d0, ds0, p0, q0, hargs, rfl, rfl, h0, r0⟩ := trodAll_cons hA
  obtain ⟨rfl, rfl, rfl⟩ := trodAll_nil r0
  obtain rfl : args = #[v0] := by cases args; simp_all
  obtain ⟨rfl, rfl⟩ := trodVars_none hV
  have k0 := h0
  have lt0 : ∀ x ∈ p0, x.block < W.heap.size := by obtain ⟨m, hm⟩ := k0; exact DataW.trod_lt m _ _ _ hm
  obtain ⟨x0, len0, cap0, rfl⟩ := okWide_slice Try.underlying22 (hval 0 22 v0 rfl rfl)
  obtain ⟨e0, g0⟩ : ∃ a, RdB W [.slice x0 len0 cap0] a := by obtain ⟨fuel, hf⟩ := h0; exact rdB_trod' enc W 0 _ true fuel _ _ hf
  clear hA0 hval0
  refine (walk x0 len0 cap0 e0 W g0).mono fun e W' ⟨he, hg⟩ => ?_
  subst he
  exact ⟨_, rfl, _, _, _, [], _, [], hW', trodAll_mk1 (shut_bool Try.underlying4 _), (trodAll_cons_mk (Below.trod laidOut (by kernel_rfl) (of_decide_eq_true (by kernel_rfl)) k0 hg lt0) trodAll_mk0), rfl, hg.frame _, fun h => by cases h⟩

theorem over : Rows.fnDevsRow.holds Try.pinned (OpenSpec.ofChange Rows.fnDevsSpec) :=
  OpenClaim.holds_of_wide 3 Try.f3 rfl rfl rfl rfl rfl rfl rfl ⟨rfl, rfl, rfl, rfl, rfl⟩ rfl rfl rfl rfl rfl (by kernel_rfl) Try.func3 (by kernel_rfl)
    (of_decide_eq_true (by kernel_rfl)) (by unfold Func.isWrapper; first | (rw [if_pos (by decide +kernel)]; kernel_rfl) | (rw [if_neg (by decide +kernel)]; exact ⟨rfl, rfl⟩))
    (fun os started H enc _ => lifted os started H enc)

end Go.Proofs.Ytidbhdlhcmjhkaa.fnDevs

namespace Go.Proofs.Ytidbhdlhcmjhkaa
theorem FnDevs_holds : Rows.FnDevsSaid := fnDevs.over
#print axioms FnDevs_holds
end Go.Proofs.Ytidbhdlhcmjhkaa
