/- FnExactTabOk holds: at every Tab the program's TabOk answers as the specification's does, and writes into nothing. -/
import Derived.Test.YtfgicjglinmclaaDoorCards
import Derived.Test.YtfgicjglinmclaaDoorTie
import Derived.WalkKit
import Derived.ProofKit
import Derived.OpenShut
import Derived.ShutString
import Derived.ChangeOld
import Derived.Below
import Derived.OpenVars
import Derived.Lay
import Derived.MakeChecks
import Derived.SevenTiedAt
import Derived.Stop.Joined
import Derived.Lib.SmallJoins
import Derived.Deep.RegionHeld3
import Derived.Deep.RegionHeldLaw
import Derived.Test.YtfgicjglinmclaaDoorTrodTab
import Derived.Test.YtfgicjglinmclaaDoorExactB
import Derived.Test.YtfgicjglinmclaaDoorTabOI
import Derived.Test.YtfgicjglinmclaaDoorTabOS
namespace Go.Proofs.YtfgicjglinmclaaDoor.fnExactTabOk
open Go.ChangeShapes Go.WideShapes Go.ChangeAt Go.RowKit
set_option linter.unusedVariables false
set_option maxRecDepth 4000

theorem own : ownKnob Tryd.prog.godebug = none := by kernel_rfl
theorem laidOut : laidOutB Tryd.prog = true := by kernel_rfl

set_option maxHeartbeats 8000000 in
theorem walk (A_x0 : Option Addr) (A_m0 A_d0 : Nat) (A_x2 : Option Addr) (A_m2 A_d2 : Nat) (p0 : TabD) (w : World) (h0 : RdTab w [.slice A_x0 A_m0 A_d0, .int .i64 p0.phase, .slice A_x2 A_m2 A_d2] p0) (T : Hd (AllAt w)) :
    Calls Tryd.prog 3 #[.agg #[.slice A_x0 A_m0 A_d0, .int .i64 p0.phase, .slice A_x2 A_m2 A_d2]] w fun e w' => e = .returned (.bool true) ∧ Below w.heap.size w w' := by
  have HA0 : Hd (RdTab w [.slice A_x0 A_m0 A_d0, .int .i64 p0.phase, .slice A_x2 A_m2 A_d2] p0) := ⟨h0⟩
  clear h0
  go_enter Tryd.func3, Tryd.ntmps3
  go_wp2_with fail
  obtain ⟨w1, hW0⟩ : ∃ W, w.alloc (.cells #[.slice A_x0 A_m0 A_d0, .int .i64 p0.phase, .slice A_x2 A_m2 A_d2] 25) = W := ⟨_, rfl⟩
  have B0 : Hd (Below w.heap.size w w1) := ⟨by rw [← hW0]; exact below_lit w _⟩
  have A_0 : Hd (BR 25 RdTab w.heap.size [.slice A_x0 A_m0 A_d0, .int .i64 p0.phase, .slice A_x2 A_m2 A_d2] (p0) w1) := ⟨by rw [← hW0]; exact br_new rdTab_ok HA0.out⟩
  rewrite [hW0]
  clear hW0 HA0
  refine (szTab_rd _ p0 (1048576) _ A_0.out.lo ⟨by omega, by omega⟩).mono ?_
  rintro e w2 ⟨⟨l0, rfl, hl1, hl2, hl3⟩, hB⟩
  have A_1 : Hd (BR 25 RdTab w.heap.size [.slice A_x0 A_m0 A_d0, .int .i64 p0.phase, .slice A_x2 A_m2 A_d2] (p0) w2) := ⟨A_0.out.below rdTab_ok hB⟩
  have B1 : Hd (Below w.heap.size w w2) := ⟨Below.next B0.out hB⟩
  clear A_0 B0
  clear hB
  by_cases hz0 : l0 < 0
  · go_wp2_with fail
    go_ret
    exact ⟨rfl, B1.out⟩
  have HP0 : Hd (wtTab p0 ≤ 1048576) := ⟨by have := hl3 (by omega); omega⟩
  clear hl1 hl3
  obtain ⟨r, hr⟩ : ∃ r, tabOk p0 = r := ⟨_, rfl⟩
  have HR : Hd (tabOk p0 = r) := ⟨hr⟩
  clear hr
  have hrr : (r != r) = false := by simp
  have c0 := cellsA A_1.out.box 0 rfl
  have c1 := cellsA A_1.out.box 1 rfl
  have c2 := cellsA A_1.out.box 2 rfl
  go_wp2_with fail
  clear c0 c1 c2
  refine (toTab_rd _ p0 _ A_1.out.lo (by have := HP0.out; omega)).mono ?_
  rintro e w3 ⟨⟨css0, rfl, hN⟩, hB⟩
  have hT : RcTab w3 css0 p0 := by obtain ⟨F9, hE9, _⟩ := hN; exact owTab_ok.rd hE9
  clear hN
  have A_2 : Hd (BR 25 RdTab w.heap.size [.slice A_x0 A_m0 A_d0, .int .i64 p0.phase, .slice A_x2 A_m2 A_d2] (p0) w3) := ⟨A_1.out.below rdTab_ok hB⟩
  have B2 : Hd (Below w.heap.size w w3) := ⟨Below.next B1.out hB⟩
  clear A_1 B1
  clear hB
  have Ts0 : Hd (RcTab w3 css0 (p0)) := ⟨hT⟩
  clear hT
  go_wp2_with fail
  refine (specTabOk_rd _ p0 _ Ts0.out (by have := HP0.out; omega) ).mono ?_
  rintro e w4 ⟨rfl, hB⟩
  rewrite [HR.out]
  clear Ts0
  have A_3 : Hd (BR 25 RdTab w.heap.size [.slice A_x0 A_m0 A_d0, .int .i64 p0.phase, .slice A_x2 A_m2 A_d2] (p0) w4) := ⟨A_2.out.below rdTab_ok hB⟩
  have B3 : Hd (Below w.heap.size w w4) := ⟨Below.next B2.out hB⟩
  clear A_2 B2
  clear hB
  have c0 := cellsA A_3.out.box 0 rfl
  have c1 := cellsA A_3.out.box 1 rfl
  have c2 := cellsA A_3.out.box 2 rfl
  go_wp2_with fail
  clear c0 c1 c2
  refine (toTab_rd _ p0 _ A_3.out.lo (by have := HP0.out; omega)).mono ?_
  rintro e w5 ⟨⟨csr, rfl, hA⟩, hB⟩
  obtain ⟨F9, hE9, _⟩ := hA
  have hA := owTab_ok.rd hE9
  clear hE9
  have hA8 := hA
  simp only [RcTab] at hA8
  obtain ⟨X_x0, X_m0, X_d0, X_x2, X_m2, X_d2, rfl, _⟩ := hA8
  have A_4 : Hd (BR 25 RdTab w.heap.size [.slice A_x0 A_m0 A_d0, .int .i64 p0.phase, .slice A_x2 A_m2 A_d2] (p0) w5) := ⟨A_3.out.below rdTab_ok hB⟩
  have B4 : Hd (Below w.heap.size w w5) := ⟨Below.next B3.out hB⟩
  clear A_3 B3
  clear hB
  obtain ⟨bX, hbX⟩ : ∃ b, w5.heap.size = b := ⟨_, rfl⟩
  obtain ⟨w6, hW9⟩ : ∃ W, w5.alloc (.cells #[.slice X_x0 X_m0 X_d0, .int .i64 p0.phase, .slice X_x2 X_m2 X_d2] 31) = W := ⟨_, rfl⟩
  have hBx : Below w5.heap.size w5 w6 := by rw [← hW9]; exact below_lit _ _
  have X_0 : Hd (BR 31 RcTab bX [.slice X_x0 X_m0 X_d0, .int .i64 p0.phase, .slice X_x2 X_m2 X_d2] (p0) w6) := ⟨by rw [← hW9, ← hbX]; exact br_new rcTab_ok hA⟩
  clear hA
  have A_5 : Hd (BR 25 RdTab w.heap.size [.slice A_x0 A_m0 A_d0, .int .i64 p0.phase, .slice A_x2 A_m2 A_d2] (p0) w6) := ⟨A_4.out.below rdTab_ok hBx⟩
  have B5 : Hd (Below w.heap.size w w6) := ⟨Below.next B4.out hBx⟩
  clear A_4 B4
  clear hBx
  have c0 := cellsA X_0.out.box 0 rfl
  have c1 := cellsA X_0.out.box 1 rfl
  have c2 := cellsA X_0.out.box 2 rfl
  go_wp2_with fail
  clear hW9 hbX c0 c1 c2
  refine (implTabOk_rd _ p0 _ X_0.out.lo (by have := HP0.out; omega)  ⟨T.out.below B5.out⟩).mono ?_
  rintro e w7 ⟨rfl, hB⟩
  rewrite [HR.out]
  have A_6 : Hd (BR 25 RdTab w.heap.size [.slice A_x0 A_m0 A_d0, .int .i64 p0.phase, .slice A_x2 A_m2 A_d2] (p0) w7) := ⟨A_5.out.below rdTab_ok hB⟩
  have X_1 : Hd (BR 31 RcTab bX [.slice X_x0 X_m0 X_d0, .int .i64 p0.phase, .slice X_x2 X_m2 X_d2] (p0) w7) := ⟨X_0.out.below rcTab_ok hB⟩
  have B6 : Hd (Below w.heap.size w w7) := ⟨Below.next B5.out hB⟩
  clear A_5 X_0 B5
  clear hB
  have c0 := cellsA X_1.out.box 0 rfl
  have c1 := cellsA X_1.out.box 1 rfl
  have c2 := cellsA X_1.out.box 2 rfl
  have g0 := cellsA A_6.out.box 0 rfl
  have g1 := cellsA A_6.out.box 1 rfl
  have g2 := cellsA A_6.out.box 2 rfl
  go_wp2_with fail
  clear c0 c1 c2 g0 g1 g2
  have KK : Hd (∀ w', Below w7.heap.size w7 w' → (w'.cell? ⟨bX, 0, none⟩ = some (.slice X_x0 X_m0 X_d0) ∧ w'.cell? ⟨bX, 1, none⟩ = some (.int .i64 p0.phase) ∧ w'.cell? ⟨bX, 2, none⟩ = some (.slice X_x2 X_m2 X_d2) ∧ w'.cell? ⟨w.heap.size, 0, none⟩ = some (.slice A_x0 A_m0 A_d0) ∧ w'.cell? ⟨w.heap.size, 1, none⟩ = some (.int .i64 p0.phase) ∧ w'.cell? ⟨w.heap.size, 2, none⟩ = some (.slice A_x2 A_m2 A_d2))) := ⟨fun w' hb => ⟨cell_below (cellsA X_1.out.box 0 rfl) hb, cell_below (cellsA X_1.out.box 1 rfl) hb, cell_below (cellsA X_1.out.box 2 rfl) hb, cell_below (cellsA A_6.out.box 0 rfl) hb, cell_below (cellsA A_6.out.box 1 rfl) hb, cell_below (cellsA A_6.out.box 2 rfl) hb⟩⟩
  have D0 : Hd (Below w7.heap.size w7 w7.drew) := ⟨(Below.refl _ w7).drew⟩
  have c0 := cellsA X_1.out.box 0 rfl
  have c1 := cellsA X_1.out.box 1 rfl
  have c2 := cellsA X_1.out.box 2 rfl
  have g0 := cellsA A_6.out.box 0 rfl
  have g1 := cellsA A_6.out.box 1 rfl
  have g2 := cellsA A_6.out.box 2 rfl
  go_region_held (fun w' => w'.cell? ⟨bX, 0, none⟩ = some (.slice X_x0 X_m0 X_d0) ∧ w'.cell? ⟨bX, 1, none⟩ = some (.int .i64 p0.phase) ∧ w'.cell? ⟨bX, 2, none⟩ = some (.slice X_x2 X_m2 X_d2) ∧ w'.cell? ⟨w.heap.size, 0, none⟩ = some (.slice A_x0 A_m0 A_d0) ∧ w'.cell? ⟨w.heap.size, 1, none⟩ = some (.int .i64 p0.phase) ∧ w'.cell? ⟨w.heap.size, 2, none⟩ = some (.slice A_x2 A_m2 A_d2)) (first | (with_reducible exact KK.out _ D2.out) | (with_reducible exact KK.out _ D1.out) | (with_reducible exact KK.out _ D0.out))
    (first | (go_at_call 8; refine (eqTab_rd _ cs9 p0 _ (rdTab_ok.below (rcTab_w X_1.out.lo) D1.out) R9.out (by have := HP0.out; omega)).mono ?_; rintro e w8 ⟨rfl, hB9⟩; have D2 : Hd (Below w7.heap.size w7 w8) := ⟨Below.next D1.out hB9⟩; clear hB9) | (go_at_call 6; refine (toTab_rd _ p0 _ (rdTab_ok.below A_6.out.lo D0.out) (by have := HP0.out; omega)).mono ?_; rintro e wv ⟨⟨cs9, rfl, hN9⟩, hB9⟩; have D1 : Hd (Below w7.heap.size w7 wv) := ⟨Below.next D0.out hB9⟩; have R9 : Hd (RdTab wv cs9 p0) := (⟨by obtain ⟨F9, hE9, _⟩ := hN9; exact rcTab_w (owTab_ok.rd hE9)⟩); clear hB9 hN9))
  have hB : Below w7.heap.size w7 w8 := D2.out
  clear D2 D1 D0 KK R9 c0 c1 c2 g0 g1 g2
  have A_7 : Hd (BR 25 RdTab w.heap.size [.slice A_x0 A_m0 A_d0, .int .i64 p0.phase, .slice A_x2 A_m2 A_d2] (p0) w8) := ⟨A_6.out.below rdTab_ok hB⟩
  have X_2 : Hd (BR 31 RcTab bX [.slice X_x0 X_m0 X_d0, .int .i64 p0.phase, .slice X_x2 X_m2 X_d2] (p0) w8) := ⟨X_1.out.below rcTab_ok hB⟩
  have B7 : Hd (Below w.heap.size w w8) := ⟨Below.next B6.out hB⟩
  clear A_6 X_1 B6
  clear hB
  go_wp2_with fail
  go_ret
  exact ⟨rfl, B7.out⟩

set_option maxRecDepth 100000 in
theorem lifted (os : Os) (started : os.Started) (H : Type) (enc : TypeId × Value → H) :
    ReturnsInHanded {} Tryd.checked os 3 .any (fun w args => (Rows.fnExactTabOkSpec.pre enc Tryd.prog Tryd.f3 Rows.fnExactTabOkRow.domain false w args ∧ laidMetH Tryd.prog Rows.fnExactTabOkRow.laid w) ∧ sizedMet enc Tryd.prog Tryd.f3 (OpenSpec.ofChange Rows.fnExactTabOkSpec) false w args)
      (Rows.fnExactTabOkSpec.post enc Tryd.prog Tryd.f3 false true false false) := by
  refine returnsInHanded_of_change_and (C := Tryd.checked) (X := fun w _ => laidMetH Tryd.prog Rows.fnExactTabOkRow.laid w) (fun _ _ _ hh h => h.of_heap hh) own started (by kernel_rfl) Tryd.func3
    (ChangeSpec.witness_shaped (enc := enc) (C := Tryd.checked) (os := os) (X := fun w _ => laidMetH Tryd.prog Rows.fnExactTabOkRow.laid w) false (World.laidAll Tryd.prog os Rows.fnExactTabOkRow.laid) #[.agg #[.slice none 0 0, .int .i64 0, .slice none 0 0]] 8 (World.laidAll_os _ _ _)
      (World.shaped_of_ZipB (by kernel_rfl) (by kernel_rfl)) (by kernel_rfl) (by kernel_rfl) (by kernel_rfl)
      (by rw [MakeChecks.laidMetH_plain _ _ _ (by kernel_rfl)]; exact laidMet_laidAll _ (by kernel_rfl) (by kernel_rfl))) ?_
  intro W base args ds gs before hval0 hW _ _ hL _
  have hval : ∀ (j : Nat) t v, Tryd.f3.params[j]? = some t → args[j]? = some v → Value.okWide Tryd.prog W .any base t v := hval0
  have hW' := hW
  obtain ⟨p, q, hA0, hV, rfl, hfz, hnd⟩ := hW
  have hA : DataW.TrodAll enc Tryd.prog W 0 (fun _ => true) true Tryd.f3.params.toList args.toList ds p := hA0
  rw [Tryd.params3] at hA hval
  obtain ⟨v0, vs0, d0, ds0, p0, q0, hargs, rfl, rfl, h0, r0⟩ := trodAll_cons hA
  obtain ⟨rfl, rfl, rfl⟩ := trodAll_nil r0
  obtain rfl : args = #[v0] := by cases args; simp_all
  have hV1 : DataW.TrodVars enc Tryd.prog W (fun _ => true) Rows.fnExactTabOkSpec.vars gs q := hV
  obtain ⟨gv1, gv2, gv3, gv4, rfl⟩ : ∃ gv1 gv2 gv3 gv4, gs = [gv1, gv2, gv3, gv4] := by
    match gs, (vars_length hV1 : gs.length = 4) with
    | [gv1, gv2, gv3, gv4], _ => exact ⟨gv1, gv2, gv3, gv4, rfl⟩
  have k0 := h0
  have lt0 : ∀ x ∈ p0, x.block < W.heap.size := by obtain ⟨m, hm⟩ := k0; exact DataW.trod_lt m _ _ _ hm
  obtain ⟨cs0, rfl, _⟩ := okWide_struct Tryd.underlying25 (hval 0 25 v0 rfl rfl)
  obtain ⟨e0, g0⟩ : ∃ a, RdTab W cs0.toList a := by obtain ⟨fuel, hf⟩ := h0; exact rdTab_trod enc W 0 _ true fuel _ _ hf
  obtain ⟨A_x0, A_m0, A_d0, A_x2, A_m2, A_d2, hcs0, _⟩ := id g0
  obtain rfl : cs0 = #[.slice A_x0 A_m0 A_d0, .int .i64 e0.phase, .slice A_x2 A_m2 A_d2] := by apply Array.toList_inj.1; rw [hcs0]
  clear hA0 hval0
  refine (walk A_x0 A_m0 A_d0 A_x2 A_m2 A_d2 e0 W g0 ⟨all_of hL⟩).mono fun e W' ⟨he, hg⟩ => ?_
  subst he
  exact ⟨_, rfl, _, _, _, [], _, q, hW', trodAll_mk1 (shut_bool Tryd.underlying4 _), (trodAll_cons_mk (Below.trod laidOut (by kernel_rfl) (of_decide_eq_true (by kernel_rfl)) k0 hg lt0) trodAll_mk0), Below.trodVars laidOut hg (by kernel_rfl) hV1, hg.frame _, fun h => by cases h⟩

theorem over : Rows.fnExactTabOkRow.holds Tryd.pinned (OpenSpec.ofChange Rows.fnExactTabOkSpec) :=
  OpenClaim.holds_of_wide 3 Tryd.f3 rfl rfl rfl rfl rfl rfl rfl ⟨rfl, rfl, rfl, rfl, rfl⟩ rfl rfl rfl rfl rfl (by kernel_rfl) Tryd.func3 (by kernel_rfl)
    (of_decide_eq_true (by kernel_rfl)) (by unfold Func.isWrapper; first | (rw [if_pos (by decide +kernel)]; kernel_rfl) | (rw [if_neg (by decide +kernel)]; exact ⟨rfl, rfl⟩))
    (fun os started H enc _ => lifted os started H enc)

theorem plain (f : FuncId) (fn : Func) (hf : Tryd.pinned.checked.prog.funcNamed Rows.fnExactTabOkRow.func = some f) (hfn : Tryd.pinned.checked.prog.funcs[f]? = some fn) :
    true = Tryd.pinned.checked.prog.looks [] ∧ ∀ (j : Nat) t, fn.params[j]? = some t → Tryd.pinned.checked.prog.wantsStandIn t = false := by
  obtain rfl : f = 3 := Option.some.inj ((show Tryd.prog.funcNamed Rows.fnExactTabOkRow.func = some 3 by kernel_rfl).symm.trans hf) |>.symm
  obtain rfl : fn = Tryd.f3 := (Option.some.inj (Tryd.func3.symm.trans hfn)).symm
  refine ⟨by kernel_rfl, fun j t ht => ?_⟩
  rw [Tryd.params3] at ht
  have hm : t ∈ [25] := by first | simpa using Array.mem_of_getElem? ht | (have h := Array.mem_of_getElem? ht; simp at h ⊢; rcases h with h | h | h | h <;> simp [h])
  have hall : ([25].all fun u => !Tryd.prog.wantsStandIn u) = true := by kernel_rfl
  exact (show Tryd.prog.wantsStandIn t = false by simpa using List.all_eq_true.1 hall t hm)

end Go.Proofs.YtfgicjglinmclaaDoor.fnExactTabOk

namespace Go.Proofs.YtfgicjglinmclaaDoor
theorem fnExactTabOkCard_holds : Rows.FnExactTabOkCardSaid :=
  Claim7.holds_tied_plain_at .later [] _ _ _ _ fnExactTabOk.over (fun _ h => by cases h) (by kernel_rfl) (fun _ h => by cases h) fnExactTabOk_row_tie rfl ⟨rfl, rfl⟩ (by kernel_rfl) rfl fnExactTabOk.plain (by kernel_rfl)
#print axioms fnExactTabOkCard_holds
end Go.Proofs.YtfgicjglinmclaaDoor
