/- For every code that is drawn from: a row that is filled has both, or is set aside; cut it has the new one alone, or is set aside; turned back the old one alone, or is set aside; what the program does to drawn rows is what the specification does. -/
import Derived.Test.YtpafjehphajbhaaGreatDoorCards
import Derived.Test.YtpafjehphajbhaaGreatDoorTie
import Derived.WalkKit
import Derived.ProofKit
import Derived.OpenShut
import Derived.ShutString
import Derived.ChangeOld
import Derived.Below
import Derived.OpenVars
import Derived.Lay
import Derived.MakeChecks
import Derived.SevenTiedAt
import Derived.Stop.Joined
import Derived.Lib.SmallJoins
import Derived.Test.YtpafjehphajbhaaGreatDoorRowRZ
namespace Go.Proofs.YtpafjehphajbhaaGreatDoor.fnTurned
open Go.ChangeShapes Go.WideShapes Go.ChangeAt Go.RowKit
open Go.ChangeMaps (open_string shut_string)
set_option linter.unusedVariables false

theorem own : ownKnob Tryz.prog.godebug = none := by kernel_rfl
theorem laidOut : laidOutB Tryz.prog = true := by kernel_rfl

def IsRow (k : IntKind) (w : World) (a : Option Addr) (len cap : Nat) (zs : List Int) : Prop :=
  (a = none ∧ len = 0 ∧ cap = 0 ∧ zs = []) ∨
  ∃ x, a = some x ∧ len ≤ cap ∧ cap ≤ maxLen ∧ zs.length = cap ∧ (∀ i, i < zs.length → w.cell? (x.add i) = some (.int k (zs.getD i 0))) ∧ ∀ n ∈ zs, (Lit.int k n).wf = true

set_option maxRecDepth 4000 in
set_option maxHeartbeats 8000000 in
theorem walk (a0 : Option Addr) (len0 cap0 : Nat) (z0 : List Int) (w : World) (w0 : IsRow .u8 w a0 len0 cap0 z0) (T : Hd (AllAt w)) :
    Calls Tryz.prog 4 #[.slice a0 len0 cap0] w fun e w' => e = .returned (.bool true) ∧ Below w.heap.size w w' := by
  obtain ⟨bs, hr⟩ := reads_of_row w0
  have K0 : Hd (CStays w a0 len0 bs w) := ⟨CStays.start T.out hr⟩
  clear hr w0 T
  by_cases hb : (1048576 : Int) < (len0 : Int)
  · have hbd : decide ((1048576 : Int) < (len0 : Int)) = true := decide_eq_true hb
    go_enter Tryz.func4, Tryz.ntmps4
    go_wp2_with (go_at_call 5; refine (big_any _ _ _ _).mono ?_; rintro e w' ⟨rfl, rfl⟩)
    go_ret
    exact ⟨rfl, Below.refl _ _⟩
  · have hbd : decide ((1048576 : Int) < (len0 : Int)) = false := decide_eq_false hb
    have hl : len0 ≤ 1073741824 := by omega
    go_enter Tryz.func4, Tryz.ntmps4
    go_wp2_with fail
    refine (big_any _ _ _ _).mono ?_
    rintro e w' ⟨rfl, hw'⟩
    replace hw' := hw'.symm
    subst hw'
    clear hbd
    go_wp2_with fail
    refine (drawRow_any a0 len0 cap0 bs _ hl K0.out.reads).mono ?_
    rintro e v1 h9
    obtain ⟨kR, t1R, b1R, t2R, b2R, hasR, asdR, a1R, n1R, c1R, a2R, n2R, c2R, rfl, hok, hs, hc1, hc2, hB⟩ := h9.at_
    have HOK : Hd (rOk ⟨kR, t1R, b1R, t2R, b2R, hasR, asdR⟩ = true) := ⟨hok⟩
    clear hok
    have K1 : Hd (CStays w a0 len0 bs (v1.alloc (.cells #[.string kR, .int .i64 t1R, .slice a1R n1R c1R, .int .i64 t2R, .slice a2R n2R c2R, .int .i64 hasR, .bool asdR] 29))) := ⟨(K0.out.next hB).next (below_lit v1 _)⟩
    clear K0 
    have R1 : Hd (RBx v1.heap.size kR t1R a1R n1R c1R b1R t2R a2R n2R c2R b2R hasR asdR (v1.alloc (.cells #[.string kR, .int .i64 t1R, .slice a1R n1R c1R, .int .i64 t2R, .slice a2R n2R c2R, .int .i64 hasR, .bool asdR] 29))) := ⟨rBx_new hc1 hc2 hs⟩
    generalize hd : v1.heap.size = pR at *
    clear h9 hs hc1 hc2 hB
    obtain ⟨⟨kF, t1F, b1F, t2F, b2F, hasF, asdF⟩, h1⟩ : ∃ r, fillR ⟨kR, t1R, b1R, t2R, b2R, hasR, asdR⟩ = r := ⟨_, rfl⟩
    have HMF : Hd (fillR ⟨kR, t1R, b1R, t2R, b2R, hasR, asdR⟩ = ⟨kF, t1F, b1F, t2F, b2F, hasF, asdF⟩) := ⟨h1⟩
    clear h1
    have HSF : Hd (Small ⟨kF, t1F, b1F, t2F, b2F, hasF, asdF⟩) := ⟨by rw [← HMF.out]; exact small_fill R1.out.sm⟩
    obtain ⟨c0, c1, c2, c3, c4, c5, c6⟩ := cells7 _ pR _ _ _ _ _ _ _ _ R1.out.box
    go_wp2_with fail
    generalize hw : v1.alloc (.cells #[.string kR, .int .i64 t1R, .slice a1R n1R c1R, .int .i64 t2R, .slice a2R n2R c2R, .int .i64 hasR, .bool asdR] 29) = v2 at *
    clear hd hw
    clear c0 c1 c2 c3 c4 c5 c6
    refine (implFillRow_any kR t1R a1R n1R c1R t2R a2R n2R c2R hasR asdR b1R b2R _ R1.out.lk R1.out.at1 R1.out.at2 R1.out.l1 R1.out.l2 ⟨K1.out.tabs⟩).mono ?_
    rewrite [HMF.out]
    rintro e v3 h9
    obtain ⟨a1F, n1F, c1F, a2F, n2F, c2F, rfl, hn1, hn2, hA, _, hB⟩ := h9.at_
    have K2 : Hd (CStays w a0 len0 bs (v3.alloc (.cells #[.string kF, .int .i64 t1F, .slice a1F n1F c1F, .int .i64 t2F, .slice a2F n2F c2F, .int .i64 hasF, .bool asdF] 29))) := ⟨(K1.out.next hB).next (below_lit v3 _)⟩
    have R2 : Hd (RBx pR kR t1R a1R n1R c1R b1R t2R a2R n2R c2R b2R hasR asdR (v3.alloc (.cells #[.string kF, .int .i64 t1F, .slice a1F n1F c1F, .int .i64 t2F, .slice a2F n2F c2F, .int .i64 hasF, .bool asdF] 29))) := ⟨(R1.out.below hB).below (below_lit v3 _)⟩
    clear K1 R1
    have F2 : Hd (RBx v3.heap.size kF t1F a1F n1F c1F b1F t2F a2F n2F c2F b2F hasF asdF (v3.alloc (.cells #[.string kF, .int .i64 t1F, .slice a1F n1F c1F, .int .i64 t2F, .slice a2F n2F c2F, .int .i64 hasF, .bool asdF] 29))) := ⟨rBx_new (hA.one.at_ hn1) (hA.two.at_ hn2) HSF.out⟩
    generalize hd : v3.heap.size = pF at *
    clear h9 hn1 hn2 hA hB
    obtain ⟨⟨kC, t1C, b1C, t2C, b2C, hasC, asdC⟩, h1⟩ : ∃ r, cutR ⟨kF, t1F, b1F, t2F, b2F, hasF, asdF⟩ = r := ⟨_, rfl⟩
    have HMC : Hd (cutR ⟨kF, t1F, b1F, t2F, b2F, hasF, asdF⟩ = ⟨kC, t1C, b1C, t2C, b2C, hasC, asdC⟩) := ⟨h1⟩
    clear h1
    have HSC : Hd (Small ⟨kC, t1C, b1C, t2C, b2C, hasC, asdC⟩) := ⟨by rw [← HMC.out]; exact small_cut F2.out.sm⟩
    obtain ⟨c0, c1, c2, c3, c4, c5, c6⟩ := cells7 _ pF _ _ _ _ _ _ _ _ F2.out.box
    go_wp2_with fail
    generalize hw : v3.alloc (.cells #[.string kF, .int .i64 t1F, .slice a1F n1F c1F, .int .i64 t2F, .slice a2F n2F c2F, .int .i64 hasF, .bool asdF] 29) = v4 at *
    clear hd hw
    clear c0 c1 c2 c3 c4 c5 c6
    refine (implCutRow_any kF t1F a1F n1F c1F t2F a2F n2F c2F hasF asdF b1F b2F _ F2.out.lk F2.out.at1 F2.out.at2 F2.out.l1 F2.out.l2 ⟨K2.out.tabs⟩).mono ?_
    rewrite [HMC.out]
    rintro e v5 h9
    obtain ⟨a1C, n1C, c1C, a2C, n2C, c2C, rfl, hn1, hn2, hA, _, hB⟩ := h9.at_
    have K3 : Hd (CStays w a0 len0 bs (v5.alloc (.cells #[.string kC, .int .i64 t1C, .slice a1C n1C c1C, .int .i64 t2C, .slice a2C n2C c2C, .int .i64 hasC, .bool asdC] 29))) := ⟨(K2.out.next hB).next (below_lit v5 _)⟩
    have R3 : Hd (RBx pR kR t1R a1R n1R c1R b1R t2R a2R n2R c2R b2R hasR asdR (v5.alloc (.cells #[.string kC, .int .i64 t1C, .slice a1C n1C c1C, .int .i64 t2C, .slice a2C n2C c2C, .int .i64 hasC, .bool asdC] 29))) := ⟨(R2.out.below hB).below (below_lit v5 _)⟩
    have F3 : Hd (RBx pF kF t1F a1F n1F c1F b1F t2F a2F n2F c2F b2F hasF asdF (v5.alloc (.cells #[.string kC, .int .i64 t1C, .slice a1C n1C c1C, .int .i64 t2C, .slice a2C n2C c2C, .int .i64 hasC, .bool asdC] 29))) := ⟨(F2.out.below hB).below (below_lit v5 _)⟩
    clear K2 R2 F2
    have C3 : Hd (RBx v5.heap.size kC t1C a1C n1C c1C b1C t2C a2C n2C c2C b2C hasC asdC (v5.alloc (.cells #[.string kC, .int .i64 t1C, .slice a1C n1C c1C, .int .i64 t2C, .slice a2C n2C c2C, .int .i64 hasC, .bool asdC] 29))) := ⟨rBx_new (hA.one.at_ hn1) (hA.two.at_ hn2) HSC.out⟩
    generalize hd : v5.heap.size = pC at *
    clear h9 hn1 hn2 hA hB
    obtain ⟨⟨kB, t1B, b1B, t2B, b2B, hasB, asdB⟩, h1⟩ : ∃ r, backR ⟨kF, t1F, b1F, t2F, b2F, hasF, asdF⟩ = r := ⟨_, rfl⟩
    have HMB : Hd (backR ⟨kF, t1F, b1F, t2F, b2F, hasF, asdF⟩ = ⟨kB, t1B, b1B, t2B, b2B, hasB, asdB⟩) := ⟨h1⟩
    clear h1
    have HSB : Hd (Small ⟨kB, t1B, b1B, t2B, b2B, hasB, asdB⟩) := ⟨by rw [← HMB.out]; exact small_back F3.out.sm⟩
    obtain ⟨c0, c1, c2, c3, c4, c5, c6⟩ := cells7 _ pF _ _ _ _ _ _ _ _ F3.out.box
    go_wp2_with fail
    generalize hw : v5.alloc (.cells #[.string kC, .int .i64 t1C, .slice a1C n1C c1C, .int .i64 t2C, .slice a2C n2C c2C, .int .i64 hasC, .bool asdC] 29) = v6 at *
    clear hd hw
    clear c0 c1 c2 c3 c4 c5 c6
    refine (implBackRow_any kF t1F a1F n1F c1F t2F a2F n2F c2F hasF asdF b1F b2F _ F3.out.lk F3.out.at1 F3.out.at2 F3.out.l1 F3.out.l2 ⟨K3.out.tabs⟩).mono ?_
    rewrite [HMB.out]
    rintro e v7 h9
    obtain ⟨a1B, n1B, c1B, a2B, n2B, c2B, rfl, hn1, hn2, hA, _, hB⟩ := h9.at_
    have K4 : Hd (CStays w a0 len0 bs (v7.alloc (.cells #[.string kB, .int .i64 t1B, .slice a1B n1B c1B, .int .i64 t2B, .slice a2B n2B c2B, .int .i64 hasB, .bool asdB] 29))) := ⟨(K3.out.next hB).next (below_lit v7 _)⟩
    have R4 : Hd (RBx pR kR t1R a1R n1R c1R b1R t2R a2R n2R c2R b2R hasR asdR (v7.alloc (.cells #[.string kB, .int .i64 t1B, .slice a1B n1B c1B, .int .i64 t2B, .slice a2B n2B c2B, .int .i64 hasB, .bool asdB] 29))) := ⟨(R3.out.below hB).below (below_lit v7 _)⟩
    have F4 : Hd (RBx pF kF t1F a1F n1F c1F b1F t2F a2F n2F c2F b2F hasF asdF (v7.alloc (.cells #[.string kB, .int .i64 t1B, .slice a1B n1B c1B, .int .i64 t2B, .slice a2B n2B c2B, .int .i64 hasB, .bool asdB] 29))) := ⟨(F3.out.below hB).below (below_lit v7 _)⟩
    have C4 : Hd (RBx pC kC t1C a1C n1C c1C b1C t2C a2C n2C c2C b2C hasC asdC (v7.alloc (.cells #[.string kB, .int .i64 t1B, .slice a1B n1B c1B, .int .i64 t2B, .slice a2B n2B c2B, .int .i64 hasB, .bool asdB] 29))) := ⟨(C3.out.below hB).below (below_lit v7 _)⟩
    clear K3 R3 F3 C3
    have B4 : Hd (RBx v7.heap.size kB t1B a1B n1B c1B b1B t2B a2B n2B c2B b2B hasB asdB (v7.alloc (.cells #[.string kB, .int .i64 t1B, .slice a1B n1B c1B, .int .i64 t2B, .slice a2B n2B c2B, .int .i64 hasB, .bool asdB] 29))) := ⟨rBx_new (hA.one.at_ hn1) (hA.two.at_ hn2) HSB.out⟩
    generalize hd : v7.heap.size = pB at *
    clear h9 hn1 hn2 hA hB
    go_wp2_with fail
    generalize hw : v7.alloc (.cells #[.string kB, .int .i64 t1B, .slice a1B n1B c1B, .int .i64 t2B, .slice a2B n2B c2B, .int .i64 hasB, .bool asdB] 29) = v8 at *
    clear hd hw
    refine (drawFillRow_any a0 len0 cap0 bs _ hl K4.out.reads).mono ?_
    rintro e v9 h9
    obtain ⟨kP, t1P, b1P, t2P, b2P, hasP, asdP, a1P, n1P, c1P, a2P, n2P, c2P, rfl, hs, hc1, hc2, hB⟩ := h9.at_
    have K5 : Hd (CStays w a0 len0 bs (v9.alloc (.cells #[.string kP, .int .i64 t1P, .slice a1P n1P c1P, .int .i64 t2P, .slice a2P n2P c2P, .int .i64 hasP, .bool asdP] 29))) := ⟨(K4.out.next hB).next (below_lit v9 _)⟩
    have R5 : Hd (RBx pR kR t1R a1R n1R c1R b1R t2R a2R n2R c2R b2R hasR asdR (v9.alloc (.cells #[.string kP, .int .i64 t1P, .slice a1P n1P c1P, .int .i64 t2P, .slice a2P n2P c2P, .int .i64 hasP, .bool asdP] 29))) := ⟨(R4.out.below hB).below (below_lit v9 _)⟩
    have F5 : Hd (RBx pF kF t1F a1F n1F c1F b1F t2F a2F n2F c2F b2F hasF asdF (v9.alloc (.cells #[.string kP, .int .i64 t1P, .slice a1P n1P c1P, .int .i64 t2P, .slice a2P n2P c2P, .int .i64 hasP, .bool asdP] 29))) := ⟨(F4.out.below hB).below (below_lit v9 _)⟩
    have C5 : Hd (RBx pC kC t1C a1C n1C c1C b1C t2C a2C n2C c2C b2C hasC asdC (v9.alloc (.cells #[.string kP, .int .i64 t1P, .slice a1P n1P c1P, .int .i64 t2P, .slice a2P n2P c2P, .int .i64 hasP, .bool asdP] 29))) := ⟨(C4.out.below hB).below (below_lit v9 _)⟩
    have B5 : Hd (RBx pB kB t1B a1B n1B c1B b1B t2B a2B n2B c2B b2B hasB asdB (v9.alloc (.cells #[.string kP, .int .i64 t1P, .slice a1P n1P c1P, .int .i64 t2P, .slice a2P n2P c2P, .int .i64 hasP, .bool asdP] 29))) := ⟨(B4.out.below hB).below (below_lit v9 _)⟩
    clear K4 R4 F4 C4 B4
    have P5 : Hd (RBx v9.heap.size kP t1P a1P n1P c1P b1P t2P a2P n2P c2P b2P hasP asdP (v9.alloc (.cells #[.string kP, .int .i64 t1P, .slice a1P n1P c1P, .int .i64 t2P, .slice a2P n2P c2P, .int .i64 hasP, .bool asdP] 29))) := ⟨rBx_new hc1 hc2 hs⟩
    generalize hd : v9.heap.size = pP at *
    clear h9 hs hc1 hc2 hB
    go_wp2_with fail
    generalize hw : v9.alloc (.cells #[.string kP, .int .i64 t1P, .slice a1P n1P c1P, .int .i64 t2P, .slice a2P n2P c2P, .int .i64 hasP, .bool asdP] 29) = v10 at *
    clear hd hw
    refine (drawCutRow_any a0 len0 cap0 bs _ hl K5.out.reads).mono ?_
    rintro e v11 h9
    obtain ⟨kM, t1M, b1M, t2M, b2M, hasM, asdM, a1M, n1M, c1M, a2M, n2M, c2M, rfl, hs, hc1, hc2, hB⟩ := h9.at_
    have K6 : Hd (CStays w a0 len0 bs (v11.alloc (.cells #[.string kM, .int .i64 t1M, .slice a1M n1M c1M, .int .i64 t2M, .slice a2M n2M c2M, .int .i64 hasM, .bool asdM] 29))) := ⟨(K5.out.next hB).next (below_lit v11 _)⟩
    have R6 : Hd (RBx pR kR t1R a1R n1R c1R b1R t2R a2R n2R c2R b2R hasR asdR (v11.alloc (.cells #[.string kM, .int .i64 t1M, .slice a1M n1M c1M, .int .i64 t2M, .slice a2M n2M c2M, .int .i64 hasM, .bool asdM] 29))) := ⟨(R5.out.below hB).below (below_lit v11 _)⟩
    have F6 : Hd (RBx pF kF t1F a1F n1F c1F b1F t2F a2F n2F c2F b2F hasF asdF (v11.alloc (.cells #[.string kM, .int .i64 t1M, .slice a1M n1M c1M, .int .i64 t2M, .slice a2M n2M c2M, .int .i64 hasM, .bool asdM] 29))) := ⟨(F5.out.below hB).below (below_lit v11 _)⟩
    have C6 : Hd (RBx pC kC t1C a1C n1C c1C b1C t2C a2C n2C c2C b2C hasC asdC (v11.alloc (.cells #[.string kM, .int .i64 t1M, .slice a1M n1M c1M, .int .i64 t2M, .slice a2M n2M c2M, .int .i64 hasM, .bool asdM] 29))) := ⟨(C5.out.below hB).below (below_lit v11 _)⟩
    have B6 : Hd (RBx pB kB t1B a1B n1B c1B b1B t2B a2B n2B c2B b2B hasB asdB (v11.alloc (.cells #[.string kM, .int .i64 t1M, .slice a1M n1M c1M, .int .i64 t2M, .slice a2M n2M c2M, .int .i64 hasM, .bool asdM] 29))) := ⟨(B5.out.below hB).below (below_lit v11 _)⟩
    have P6 : Hd (RBx pP kP t1P a1P n1P c1P b1P t2P a2P n2P c2P b2P hasP asdP (v11.alloc (.cells #[.string kM, .int .i64 t1M, .slice a1M n1M c1M, .int .i64 t2M, .slice a2M n2M c2M, .int .i64 hasM, .bool asdM] 29))) := ⟨(P5.out.below hB).below (below_lit v11 _)⟩
    clear K5 R5 F5 C5 B5 P5
    have M6 : Hd (RBx v11.heap.size kM t1M a1M n1M c1M b1M t2M a2M n2M c2M b2M hasM asdM (v11.alloc (.cells #[.string kM, .int .i64 t1M, .slice a1M n1M c1M, .int .i64 t2M, .slice a2M n2M c2M, .int .i64 hasM, .bool asdM] 29))) := ⟨rBx_new hc1 hc2 hs⟩
    generalize hd : v11.heap.size = pM at *
    clear h9 hs hc1 hc2 hB
    go_wp2_with fail
    generalize hw : v11.alloc (.cells #[.string kM, .int .i64 t1M, .slice a1M n1M c1M, .int .i64 t2M, .slice a2M n2M c2M, .int .i64 hasM, .bool asdM] 29) = v12 at *
    clear hd hw
    refine (drawBackRow_any a0 len0 cap0 bs _ hl K6.out.reads).mono ?_
    rintro e v13 h9
    obtain ⟨kE, t1E, b1E, t2E, b2E, hasE, asdE, a1E, n1E, c1E, a2E, n2E, c2E, rfl, hs, hc1, hc2, hB⟩ := h9.at_
    have K7 : Hd (CStays w a0 len0 bs (v13.alloc (.cells #[.string kE, .int .i64 t1E, .slice a1E n1E c1E, .int .i64 t2E, .slice a2E n2E c2E, .int .i64 hasE, .bool asdE] 29))) := ⟨(K6.out.next hB).next (below_lit v13 _)⟩
    have R7 : Hd (RBx pR kR t1R a1R n1R c1R b1R t2R a2R n2R c2R b2R hasR asdR (v13.alloc (.cells #[.string kE, .int .i64 t1E, .slice a1E n1E c1E, .int .i64 t2E, .slice a2E n2E c2E, .int .i64 hasE, .bool asdE] 29))) := ⟨(R6.out.below hB).below (below_lit v13 _)⟩
    have F7 : Hd (RBx pF kF t1F a1F n1F c1F b1F t2F a2F n2F c2F b2F hasF asdF (v13.alloc (.cells #[.string kE, .int .i64 t1E, .slice a1E n1E c1E, .int .i64 t2E, .slice a2E n2E c2E, .int .i64 hasE, .bool asdE] 29))) := ⟨(F6.out.below hB).below (below_lit v13 _)⟩
    have C7 : Hd (RBx pC kC t1C a1C n1C c1C b1C t2C a2C n2C c2C b2C hasC asdC (v13.alloc (.cells #[.string kE, .int .i64 t1E, .slice a1E n1E c1E, .int .i64 t2E, .slice a2E n2E c2E, .int .i64 hasE, .bool asdE] 29))) := ⟨(C6.out.below hB).below (below_lit v13 _)⟩
    have B7 : Hd (RBx pB kB t1B a1B n1B c1B b1B t2B a2B n2B c2B b2B hasB asdB (v13.alloc (.cells #[.string kE, .int .i64 t1E, .slice a1E n1E c1E, .int .i64 t2E, .slice a2E n2E c2E, .int .i64 hasE, .bool asdE] 29))) := ⟨(B6.out.below hB).below (below_lit v13 _)⟩
    have P7 : Hd (RBx pP kP t1P a1P n1P c1P b1P t2P a2P n2P c2P b2P hasP asdP (v13.alloc (.cells #[.string kE, .int .i64 t1E, .slice a1E n1E c1E, .int .i64 t2E, .slice a2E n2E c2E, .int .i64 hasE, .bool asdE] 29))) := ⟨(P6.out.below hB).below (below_lit v13 _)⟩
    have M7 : Hd (RBx pM kM t1M a1M n1M c1M b1M t2M a2M n2M c2M b2M hasM asdM (v13.alloc (.cells #[.string kE, .int .i64 t1E, .slice a1E n1E c1E, .int .i64 t2E, .slice a2E n2E c2E, .int .i64 hasE, .bool asdE] 29))) := ⟨(M6.out.below hB).below (below_lit v13 _)⟩
    clear K6 R6 F6 C6 B6 P6 M6
    have E7 : Hd (RBx v13.heap.size kE t1E a1E n1E c1E b1E t2E a2E n2E c2E b2E hasE asdE (v13.alloc (.cells #[.string kE, .int .i64 t1E, .slice a1E n1E c1E, .int .i64 t2E, .slice a2E n2E c2E, .int .i64 hasE, .bool asdE] 29))) := ⟨rBx_new hc1 hc2 hs⟩
    generalize hd : v13.heap.size = pE at *
    clear h9 hs hc1 hc2 hB
    go_wp2_with fail
    generalize hw : v13.alloc (.cells #[.string kE, .int .i64 t1E, .slice a1E n1E c1E, .int .i64 t2E, .slice a2E n2E c2E, .int .i64 hasE, .bool asdE] 29) = v14 at *
    clear hd hw
    refine (drawRowOk_any a0 len0 cap0 bs _ hl K7.out.reads).mono ?_
    rintro e v15 h9
    obtain ⟨kG, t1G, b1G, t2G, b2G, hasG, asdG, a1G, n1G, c1G, a2G, n2G, c2G, rfl, hs, hc1, hc2, hB⟩ := h9.at_
    have K8 : Hd (CStays w a0 len0 bs (v15.alloc (.cells #[.string kG, .int .i64 t1G, .slice a1G n1G c1G, .int .i64 t2G, .slice a2G n2G c2G, .int .i64 hasG, .bool asdG] 29))) := ⟨(K7.out.next hB).next (below_lit v15 _)⟩
    have R8 : Hd (RBx pR kR t1R a1R n1R c1R b1R t2R a2R n2R c2R b2R hasR asdR (v15.alloc (.cells #[.string kG, .int .i64 t1G, .slice a1G n1G c1G, .int .i64 t2G, .slice a2G n2G c2G, .int .i64 hasG, .bool asdG] 29))) := ⟨(R7.out.below hB).below (below_lit v15 _)⟩
    have F8 : Hd (RBx pF kF t1F a1F n1F c1F b1F t2F a2F n2F c2F b2F hasF asdF (v15.alloc (.cells #[.string kG, .int .i64 t1G, .slice a1G n1G c1G, .int .i64 t2G, .slice a2G n2G c2G, .int .i64 hasG, .bool asdG] 29))) := ⟨(F7.out.below hB).below (below_lit v15 _)⟩
    have C8 : Hd (RBx pC kC t1C a1C n1C c1C b1C t2C a2C n2C c2C b2C hasC asdC (v15.alloc (.cells #[.string kG, .int .i64 t1G, .slice a1G n1G c1G, .int .i64 t2G, .slice a2G n2G c2G, .int .i64 hasG, .bool asdG] 29))) := ⟨(C7.out.below hB).below (below_lit v15 _)⟩
    have B8 : Hd (RBx pB kB t1B a1B n1B c1B b1B t2B a2B n2B c2B b2B hasB asdB (v15.alloc (.cells #[.string kG, .int .i64 t1G, .slice a1G n1G c1G, .int .i64 t2G, .slice a2G n2G c2G, .int .i64 hasG, .bool asdG] 29))) := ⟨(B7.out.below hB).below (below_lit v15 _)⟩
    have P8 : Hd (RBx pP kP t1P a1P n1P c1P b1P t2P a2P n2P c2P b2P hasP asdP (v15.alloc (.cells #[.string kG, .int .i64 t1G, .slice a1G n1G c1G, .int .i64 t2G, .slice a2G n2G c2G, .int .i64 hasG, .bool asdG] 29))) := ⟨(P7.out.below hB).below (below_lit v15 _)⟩
    have M8 : Hd (RBx pM kM t1M a1M n1M c1M b1M t2M a2M n2M c2M b2M hasM asdM (v15.alloc (.cells #[.string kG, .int .i64 t1G, .slice a1G n1G c1G, .int .i64 t2G, .slice a2G n2G c2G, .int .i64 hasG, .bool asdG] 29))) := ⟨(M7.out.below hB).below (below_lit v15 _)⟩
    have E8 : Hd (RBx pE kE t1E a1E n1E c1E b1E t2E a2E n2E c2E b2E hasE asdE (v15.alloc (.cells #[.string kG, .int .i64 t1G, .slice a1G n1G c1G, .int .i64 t2G, .slice a2G n2G c2G, .int .i64 hasG, .bool asdG] 29))) := ⟨(E7.out.below hB).below (below_lit v15 _)⟩
    clear K7 R7 F7 C7 B7 P7 M7 E7
    have G8 : Hd (RBx v15.heap.size kG t1G a1G n1G c1G b1G t2G a2G n2G c2G b2G hasG asdG (v15.alloc (.cells #[.string kG, .int .i64 t1G, .slice a1G n1G c1G, .int .i64 t2G, .slice a2G n2G c2G, .int .i64 hasG, .bool asdG] 29))) := ⟨rBx_new hc1 hc2 hs⟩
    generalize hd : v15.heap.size = pG at *
    clear h9 hs hc1 hc2 hB
    go_wp2_with fail
    generalize hw : v15.alloc (.cells #[.string kG, .int .i64 t1G, .slice a1G n1G c1G, .int .i64 t2G, .slice a2G n2G c2G, .int .i64 hasG, .bool asdG] 29) = v16 at *
    clear hd hw
    refine (drawRowText_any a0 len0 cap0 bs _ hl K8.out.reads).mono ?_
    rintro e v17 h9
    obtain ⟨kH, t1H, b1H, t2H, b2H, hasH, asdH, a1H, n1H, c1H, a2H, n2H, c2H, rfl, hs, hc1, hc2, hB⟩ := h9.at_
    have K9 : Hd (CStays w a0 len0 bs (v17.alloc (.cells #[.string kH, .int .i64 t1H, .slice a1H n1H c1H, .int .i64 t2H, .slice a2H n2H c2H, .int .i64 hasH, .bool asdH] 29))) := ⟨(K8.out.next hB).next (below_lit v17 _)⟩
    have R9 : Hd (RBx pR kR t1R a1R n1R c1R b1R t2R a2R n2R c2R b2R hasR asdR (v17.alloc (.cells #[.string kH, .int .i64 t1H, .slice a1H n1H c1H, .int .i64 t2H, .slice a2H n2H c2H, .int .i64 hasH, .bool asdH] 29))) := ⟨(R8.out.below hB).below (below_lit v17 _)⟩
    have F9 : Hd (RBx pF kF t1F a1F n1F c1F b1F t2F a2F n2F c2F b2F hasF asdF (v17.alloc (.cells #[.string kH, .int .i64 t1H, .slice a1H n1H c1H, .int .i64 t2H, .slice a2H n2H c2H, .int .i64 hasH, .bool asdH] 29))) := ⟨(F8.out.below hB).below (below_lit v17 _)⟩
    have C9 : Hd (RBx pC kC t1C a1C n1C c1C b1C t2C a2C n2C c2C b2C hasC asdC (v17.alloc (.cells #[.string kH, .int .i64 t1H, .slice a1H n1H c1H, .int .i64 t2H, .slice a2H n2H c2H, .int .i64 hasH, .bool asdH] 29))) := ⟨(C8.out.below hB).below (below_lit v17 _)⟩
    have B9 : Hd (RBx pB kB t1B a1B n1B c1B b1B t2B a2B n2B c2B b2B hasB asdB (v17.alloc (.cells #[.string kH, .int .i64 t1H, .slice a1H n1H c1H, .int .i64 t2H, .slice a2H n2H c2H, .int .i64 hasH, .bool asdH] 29))) := ⟨(B8.out.below hB).below (below_lit v17 _)⟩
    have P9 : Hd (RBx pP kP t1P a1P n1P c1P b1P t2P a2P n2P c2P b2P hasP asdP (v17.alloc (.cells #[.string kH, .int .i64 t1H, .slice a1H n1H c1H, .int .i64 t2H, .slice a2H n2H c2H, .int .i64 hasH, .bool asdH] 29))) := ⟨(P8.out.below hB).below (below_lit v17 _)⟩
    have M9 : Hd (RBx pM kM t1M a1M n1M c1M b1M t2M a2M n2M c2M b2M hasM asdM (v17.alloc (.cells #[.string kH, .int .i64 t1H, .slice a1H n1H c1H, .int .i64 t2H, .slice a2H n2H c2H, .int .i64 hasH, .bool asdH] 29))) := ⟨(M8.out.below hB).below (below_lit v17 _)⟩
    have E9 : Hd (RBx pE kE t1E a1E n1E c1E b1E t2E a2E n2E c2E b2E hasE asdE (v17.alloc (.cells #[.string kH, .int .i64 t1H, .slice a1H n1H c1H, .int .i64 t2H, .slice a2H n2H c2H, .int .i64 hasH, .bool asdH] 29))) := ⟨(E8.out.below hB).below (below_lit v17 _)⟩
    have G9 : Hd (RBx pG kG t1G a1G n1G c1G b1G t2G a2G n2G c2G b2G hasG asdG (v17.alloc (.cells #[.string kH, .int .i64 t1H, .slice a1H n1H c1H, .int .i64 t2H, .slice a2H n2H c2H, .int .i64 hasH, .bool asdH] 29))) := ⟨(G8.out.below hB).below (below_lit v17 _)⟩
    clear K8 R8 F8 C8 B8 P8 M8 E8 G8
    have H9 : Hd (RBx v17.heap.size kH t1H a1H n1H c1H b1H t2H a2H n2H c2H b2H hasH asdH (v17.alloc (.cells #[.string kH, .int .i64 t1H, .slice a1H n1H c1H, .int .i64 t2H, .slice a2H n2H c2H, .int .i64 hasH, .bool asdH] 29))) := ⟨rBx_new hc1 hc2 hs⟩
    generalize hd : v17.heap.size = pH at *
    clear h9 hs hc1 hc2 hB
    obtain ⟨S, h1⟩ : ∃ x, (rS ⟨kH, t1H, b1H, t2H, b2H, hasH, asdH⟩).toArray = x := ⟨_, rfl⟩
    have HSS : Hd ((rS ⟨kH, t1H, b1H, t2H, b2H, hasH, asdH⟩).toArray = S) := ⟨h1⟩
    clear h1
    obtain ⟨hk, h1⟩ : ∃ x, rT ⟨kH, t1H, b1H, t2H, b2H, hasH, asdH⟩ = x := ⟨_, rfl⟩
    have HHK : Hd (rT ⟨kH, t1H, b1H, t2H, b2H, hasH, asdH⟩ = hk) := ⟨h1⟩
    clear h1
    obtain ⟨c0, c1, c2, c3, c4, c5, c6⟩ := cells7 _ pH _ _ _ _ _ _ _ _ H9.out.box
    go_wp2_with fail
    generalize hw : v17.alloc (.cells #[.string kH, .int .i64 t1H, .slice a1H n1H c1H, .int .i64 t2H, .slice a2H n2H c2H, .int .i64 hasH, .bool asdH] 29) = v18 at *
    clear hd hw
    clear c0 c1 c2 c3 c4 c5 c6
    refine (implRowText_any kH t1H a1H n1H c1H t2H a2H n2H c2H hasH asdH b1H b2H _ H9.out.at1 H9.out.at2 H9.out.l1 H9.out.l2 ⟨K9.out.tabs⟩).mono ?_
    rintro e v19 ⟨rfl, hB⟩
    rewrite [HSS.out, HHK.out]
    have K10 : Hd (CStays w a0 len0 bs v19) := ⟨K9.out.next hB⟩
    have R10 : Hd (RBx pR kR t1R a1R n1R c1R b1R t2R a2R n2R c2R b2R hasR asdR v19) := ⟨R9.out.below hB⟩
    have F10 : Hd (RBx pF kF t1F a1F n1F c1F b1F t2F a2F n2F c2F b2F hasF asdF v19) := ⟨F9.out.below hB⟩
    have C10 : Hd (RBx pC kC t1C a1C n1C c1C b1C t2C a2C n2C c2C b2C hasC asdC v19) := ⟨C9.out.below hB⟩
    have B10 : Hd (RBx pB kB t1B a1B n1B c1B b1B t2B a2B n2B c2B b2B hasB asdB v19) := ⟨B9.out.below hB⟩
    have P10 : Hd (RBx pP kP t1P a1P n1P c1P b1P t2P a2P n2P c2P b2P hasP asdP v19) := ⟨P9.out.below hB⟩
    have M10 : Hd (RBx pM kM t1M a1M n1M c1M b1M t2M a2M n2M c2M b2M hasM asdM v19) := ⟨M9.out.below hB⟩
    have E10 : Hd (RBx pE kE t1E a1E n1E c1E b1E t2E a2E n2E c2E b2E hasE asdE v19) := ⟨E9.out.below hB⟩
    have G10 : Hd (RBx pG kG t1G a1G n1G c1G b1G t2G a2G n2G c2G b2G hasG asdG v19) := ⟨G9.out.below hB⟩
    have H10 : Hd (RBx pH kH t1H a1H n1H c1H b1H t2H a2H n2H c2H b2H hasH asdH v19) := ⟨H9.out.below hB⟩
    clear K9 R9 F9 C9 B9 P9 M9 E9 G9 H9
    clear hB
    obtain ⟨c0, c1, c2, c3, c4, c5, c6⟩ := cells7 _ pH _ _ _ _ _ _ _ _ H10.out.box
    go_wp2_with fail
    clear c0 c1 c2 c3 c4 c5 c6
    refine (specRowText_any kH t1H a1H n1H c1H t2H a2H n2H c2H hasH asdH b1H b2H _ H10.out.at1 H10.out.at2 H10.out.l1 H10.out.l2).mono ?_
    rintro e v20 ⟨rfl, hB⟩
    rewrite [HSS.out, HHK.out]
    have K11 : Hd (CStays w a0 len0 bs v20) := ⟨K10.out.next hB⟩
    have R11 : Hd (RBx pR kR t1R a1R n1R c1R b1R t2R a2R n2R c2R b2R hasR asdR v20) := ⟨R10.out.below hB⟩
    have F11 : Hd (RBx pF kF t1F a1F n1F c1F b1F t2F a2F n2F c2F b2F hasF asdF v20) := ⟨F10.out.below hB⟩
    have C11 : Hd (RBx pC kC t1C a1C n1C c1C b1C t2C a2C n2C c2C b2C hasC asdC v20) := ⟨C10.out.below hB⟩
    have B11 : Hd (RBx pB kB t1B a1B n1B c1B b1B t2B a2B n2B c2B b2B hasB asdB v20) := ⟨B10.out.below hB⟩
    have P11 : Hd (RBx pP kP t1P a1P n1P c1P b1P t2P a2P n2P c2P b2P hasP asdP v20) := ⟨P10.out.below hB⟩
    have M11 : Hd (RBx pM kM t1M a1M n1M c1M b1M t2M a2M n2M c2M b2M hasM asdM v20) := ⟨M10.out.below hB⟩
    have E11 : Hd (RBx pE kE t1E a1E n1E c1E b1E t2E a2E n2E c2E b2E hasE asdE v20) := ⟨E10.out.below hB⟩
    have G11 : Hd (RBx pG kG t1G a1G n1G c1G b1G t2G a2G n2G c2G b2G hasG asdG v20) := ⟨G10.out.below hB⟩
    have H11 : Hd (RBx pH kH t1H a1H n1H c1H b1H t2H a2H n2H c2H b2H hasH asdH v20) := ⟨H10.out.below hB⟩
    clear K10 R10 F10 C10 B10 P10 M10 E10 G10 H10
    clear hB
    have sf : ((⟨S⟩ : ByteArray).toList != (⟨S⟩ : ByteArray).toList) = false := by simp
    have hkf : (hk != hk) = false := by simp
    obtain ⟨⟨kx, t1x, b1x, t2x, b2x, hasx, asdx⟩, h1⟩ : ∃ r, fillR ⟨kP, t1P, b1P, t2P, b2P, hasP, asdP⟩ = r := ⟨_, rfl⟩
    have HMx : Hd (fillR ⟨kP, t1P, b1P, t2P, b2P, hasP, asdP⟩ = ⟨kx, t1x, b1x, t2x, b2x, hasx, asdx⟩) := ⟨h1⟩
    clear h1
    obtain ⟨⟨ky, t1y, b1y, t2y, b2y, hasy, asdy⟩, h1⟩ : ∃ r, cutR ⟨kM, t1M, b1M, t2M, b2M, hasM, asdM⟩ = r := ⟨_, rfl⟩
    have HMy : Hd (cutR ⟨kM, t1M, b1M, t2M, b2M, hasM, asdM⟩ = ⟨ky, t1y, b1y, t2y, b2y, hasy, asdy⟩) := ⟨h1⟩
    clear h1
    obtain ⟨⟨kz, t1z, b1z, t2z, b2z, hasz, asdz⟩, h1⟩ : ∃ r, backR ⟨kE, t1E, b1E, t2E, b2E, hasE, asdE⟩ = r := ⟨_, rfl⟩
    have HMz : Hd (backR ⟨kE, t1E, b1E, t2E, b2E, hasE, asdE⟩ = ⟨kz, t1z, b1z, t2z, b2z, hasz, asdz⟩) := ⟨h1⟩
    clear h1
    obtain ⟨gk, h1⟩ : ∃ x, rOk ⟨kG, t1G, b1G, t2G, b2G, hasG, asdG⟩ = x := ⟨_, rfl⟩
    have HGK : Hd (rOk ⟨kG, t1G, b1G, t2G, b2G, hasG, asdG⟩ = gk) := ⟨h1⟩
    clear h1
    have gkf : (gk != gk) = false := by simp
    obtain ⟨cp0, cp1, cp2, cp3, cp4, cp5, cp6⟩ := cells7 _ pP _ _ _ _ _ _ _ _ P11.out.box
    obtain ⟨cd0, cd1, cd2, cd3, cd4, cd5, cd6⟩ := cells7 _ pM _ _ _ _ _ _ _ _ M11.out.box
    obtain ⟨ce0, ce1, ce2, ce3, ce4, ce5, ce6⟩ := cells7 _ pE _ _ _ _ _ _ _ _ E11.out.box
    obtain ⟨cg0, cg1, cg2, cg3, cg4, cg5, cg6⟩ := cells7 _ pG _ _ _ _ _ _ _ _ G11.out.box
    go_wp2_with fail
    have KK : Hd (∀ w', Below v20.heap.size v20 w' → ((Cells7 pP kP t1P a1P n1P c1P t2P a2P n2P c2P hasP asdP w') ∧ ((Cells7 pM kM t1M a1M n1M c1M t2M a2M n2M c2M hasM asdM w') ∧ ((Cells7 pE kE t1E a1E n1E c1E t2E a2E n2E c2E hasE asdE w') ∧ (Cells7 pG kG t1G a1G n1G c1G t2G a2G n2G c2G hasG asdG w'))))) := ⟨fun w' hb => ⟨P11.out.cells hb, ⟨M11.out.cells hb, ⟨E11.out.cells hb, G11.out.cells hb⟩⟩⟩⟩
    have D0 : Hd (Below v20.heap.size v20 v20.drew) := ⟨(Below.refl _ v20).drew⟩
    go_region_held (fun w' => (w'.cell? ⟨pP, 0, none⟩ = some (.string kP) ∧ w'.cell? ⟨pP, 1, none⟩ = some (.int .i64 t1P) ∧ w'.cell? ⟨pP, 2, none⟩ = some (.slice a1P n1P c1P) ∧ w'.cell? ⟨pP, 3, none⟩ = some (.int .i64 t2P) ∧ w'.cell? ⟨pP, 4, none⟩ = some (.slice a2P n2P c2P) ∧ w'.cell? ⟨pP, 5, none⟩ = some (.int .i64 hasP) ∧ w'.cell? ⟨pP, 6, none⟩ = some (.bool asdP)) ∧ ((w'.cell? ⟨pM, 0, none⟩ = some (.string kM) ∧ w'.cell? ⟨pM, 1, none⟩ = some (.int .i64 t1M) ∧ w'.cell? ⟨pM, 2, none⟩ = some (.slice a1M n1M c1M) ∧ w'.cell? ⟨pM, 3, none⟩ = some (.int .i64 t2M) ∧ w'.cell? ⟨pM, 4, none⟩ = some (.slice a2M n2M c2M) ∧ w'.cell? ⟨pM, 5, none⟩ = some (.int .i64 hasM) ∧ w'.cell? ⟨pM, 6, none⟩ = some (.bool asdM)) ∧ ((w'.cell? ⟨pE, 0, none⟩ = some (.string kE) ∧ w'.cell? ⟨pE, 1, none⟩ = some (.int .i64 t1E) ∧ w'.cell? ⟨pE, 2, none⟩ = some (.slice a1E n1E c1E) ∧ w'.cell? ⟨pE, 3, none⟩ = some (.int .i64 t2E) ∧ w'.cell? ⟨pE, 4, none⟩ = some (.slice a2E n2E c2E) ∧ w'.cell? ⟨pE, 5, none⟩ = some (.int .i64 hasE) ∧ w'.cell? ⟨pE, 6, none⟩ = some (.bool asdE)) ∧ (w'.cell? ⟨pG, 0, none⟩ = some (.string kG) ∧ w'.cell? ⟨pG, 1, none⟩ = some (.int .i64 t1G) ∧ w'.cell? ⟨pG, 2, none⟩ = some (.slice a1G n1G c1G) ∧ w'.cell? ⟨pG, 3, none⟩ = some (.int .i64 t2G) ∧ w'.cell? ⟨pG, 4, none⟩ = some (.slice a2G n2G c2G) ∧ w'.cell? ⟨pG, 5, none⟩ = some (.int .i64 hasG) ∧ w'.cell? ⟨pG, 6, none⟩ = some (.bool asdG))))) (first | (with_reducible exact KK.out _ D11.out) | (with_reducible exact KK.out _ D10.out) | (with_reducible exact KK.out _ D9.out) | (with_reducible exact KK.out _ D8.out) | (with_reducible exact KK.out _ D7.out) | (with_reducible exact KK.out _ D6.out) | (with_reducible exact KK.out _ D5.out) | (with_reducible exact KK.out _ D4.out) | (with_reducible exact KK.out _ D3.out) | (with_reducible exact KK.out _ D2.out) | (with_reducible exact KK.out _ D1.out) | (with_reducible exact KK.out _ D0.out)) (first | (have G1 := D10; clear G1; go_at_call 25; refine (specRowOk_any kG t1G a1G n1G c1G t2G a2G n2G c2G hasG asdG b1G b2G _ G11.out.lk (G11.out.at1.below D10.out) (G11.out.at2.below D10.out) G11.out.l1 G11.out.l2).mono ?_; rintro e u11 ⟨rfl, hB⟩; rewrite [HGK.out]; have D11 : Hd (Below v20.heap.size v20 u11) := ⟨Below.next D10.out hB⟩; clear hB) | (have G1 := D9; clear G1; go_at_call 11; refine (implRowOk_any kG t1G a1G n1G c1G t2G a2G n2G c2G hasG asdG b1G b2G _ G11.out.lk (G11.out.at1.below D9.out) (G11.out.at2.below D9.out) G11.out.l1 G11.out.l2 ⟨(K11.out.next D9.out).tabs⟩).mono ?_; rintro e u10 ⟨rfl, hB⟩; rewrite [HGK.out]; have D10 : Hd (Below v20.heap.size v20 u10) := ⟨Below.next D9.out hB⟩; clear hB) | (have G1 := D8; clear G1; go_at_call 9; refine (sameRow_true kz t1z q7a q7m q7c t2z q7A q7M q7C hasz asdz q8a q8m q8c q8A q8M q8C b1z b2z _ P7.out.1 P7.out.2 Q8.out.1 Q8.out.2).mono ?_; rintro e u9 ⟨rfl, hB⟩; have D9 : Hd (Below v20.heap.size v20 u9) := ⟨Below.next D8.out hB⟩; clear hB) | (have G1 := D7; clear G1; go_at_call 24; refine (specBackRow_any kE t1E a1E n1E c1E t2E a2E n2E c2E hasE asdE b1E b2E _ E11.out.lk (E11.out.at1.below D7.out) (E11.out.at2.below D7.out) E11.out.l1 E11.out.l2).mono ?_; rewrite [HMz.out]; rintro e u8 h9; obtain ⟨q8a, q8m, q8c, q8A, q8M, q8C, rfl, hn1, hn2, hA, _, hB⟩ := h9.at_; have D8 : Hd (Below v20.heap.size v20 u8) := ⟨Below.next D7.out hB⟩; have Q8 : Hd (CellAt u8 q8a q8m q8c b1z ∧ CellAt u8 q8A q8M q8C b2z) := ⟨hA.one.at_ hn1, hA.two.at_ hn2⟩; have P7 : Hd (CellAt u8 q7a q7m q7c b1z ∧ CellAt u8 q7A q7M q7C b2z) := ⟨Q7.out.1.below hB, Q7.out.2.below hB⟩; clear h9 hn1 hn2 hA hB) | (have G1 := D6; clear G1; go_at_call 15; refine (implBackRow_any kE t1E a1E n1E c1E t2E a2E n2E c2E hasE asdE b1E b2E _ E11.out.lk (E11.out.at1.below D6.out) (E11.out.at2.below D6.out) E11.out.l1 E11.out.l2 ⟨(K11.out.next D6.out).tabs⟩).mono ?_; rewrite [HMz.out]; rintro e u7 h9; obtain ⟨q7a, q7m, q7c, q7A, q7M, q7C, rfl, hn1, hn2, hA, _, hB⟩ := h9.at_; have D7 : Hd (Below v20.heap.size v20 u7) := ⟨Below.next D6.out hB⟩; have Q7 : Hd (CellAt u7 q7a q7m q7c b1z ∧ CellAt u7 q7A q7M q7C b2z) := ⟨hA.one.at_ hn1, hA.two.at_ hn2⟩; clear h9 hn1 hn2 hA hB) | (have G1 := D5; clear G1; go_at_call 9; refine (sameRow_true ky t1y q4a q4m q4c t2y q4A q4M q4C hasy asdy q5a q5m q5c q5A q5M q5C b1y b2y _ P4.out.1 P4.out.2 Q5.out.1 Q5.out.2).mono ?_; rintro e u6 ⟨rfl, hB⟩; have D6 : Hd (Below v20.heap.size v20 u6) := ⟨Below.next D5.out hB⟩; clear hB) | (have G1 := D4; clear G1; go_at_call 23; refine (specCutRow_any kM t1M a1M n1M c1M t2M a2M n2M c2M hasM asdM b1M b2M _ M11.out.lk (M11.out.at1.below D4.out) (M11.out.at2.below D4.out) M11.out.l1 M11.out.l2).mono ?_; rewrite [HMy.out]; rintro e u5 h9; obtain ⟨q5a, q5m, q5c, q5A, q5M, q5C, rfl, hn1, hn2, hA, _, hB⟩ := h9.at_; have D5 : Hd (Below v20.heap.size v20 u5) := ⟨Below.next D4.out hB⟩; have Q5 : Hd (CellAt u5 q5a q5m q5c b1y ∧ CellAt u5 q5A q5M q5C b2y) := ⟨hA.one.at_ hn1, hA.two.at_ hn2⟩; have P4 : Hd (CellAt u5 q4a q4m q4c b1y ∧ CellAt u5 q4A q4M q4C b2y) := ⟨Q4.out.1.below hB, Q4.out.2.below hB⟩; clear h9 hn1 hn2 hA hB) | (have G1 := D3; clear G1; go_at_call 14; refine (implCutRow_any kM t1M a1M n1M c1M t2M a2M n2M c2M hasM asdM b1M b2M _ M11.out.lk (M11.out.at1.below D3.out) (M11.out.at2.below D3.out) M11.out.l1 M11.out.l2 ⟨(K11.out.next D3.out).tabs⟩).mono ?_; rewrite [HMy.out]; rintro e u4 h9; obtain ⟨q4a, q4m, q4c, q4A, q4M, q4C, rfl, hn1, hn2, hA, _, hB⟩ := h9.at_; have D4 : Hd (Below v20.heap.size v20 u4) := ⟨Below.next D3.out hB⟩; have Q4 : Hd (CellAt u4 q4a q4m q4c b1y ∧ CellAt u4 q4A q4M q4C b2y) := ⟨hA.one.at_ hn1, hA.two.at_ hn2⟩; clear h9 hn1 hn2 hA hB) | (have G1 := D2; clear G1; go_at_call 9; refine (sameRow_true kx t1x q1a q1m q1c t2x q1A q1M q1C hasx asdx q2a q2m q2c q2A q2M q2C b1x b2x _ P1.out.1 P1.out.2 Q2.out.1 Q2.out.2).mono ?_; rintro e u3 ⟨rfl, hB⟩; have D3 : Hd (Below v20.heap.size v20 u3) := ⟨Below.next D2.out hB⟩; clear hB) | (have G1 := D1; clear G1; go_at_call 22; refine (specFillRow_any kP t1P a1P n1P c1P t2P a2P n2P c2P hasP asdP b1P b2P _ P11.out.lk (P11.out.at1.below D1.out) (P11.out.at2.below D1.out) P11.out.l1 P11.out.l2).mono ?_; rewrite [HMx.out]; rintro e u2 h9; obtain ⟨q2a, q2m, q2c, q2A, q2M, q2C, rfl, hn1, hn2, hA, _, hB⟩ := h9.at_; have D2 : Hd (Below v20.heap.size v20 u2) := ⟨Below.next D1.out hB⟩; have Q2 : Hd (CellAt u2 q2a q2m q2c b1x ∧ CellAt u2 q2A q2M q2C b2x) := ⟨hA.one.at_ hn1, hA.two.at_ hn2⟩; have P1 : Hd (CellAt u2 q1a q1m q1c b1x ∧ CellAt u2 q1A q1M q1C b2x) := ⟨Q1.out.1.below hB, Q1.out.2.below hB⟩; clear h9 hn1 hn2 hA hB) | (go_at_call 13; refine (implFillRow_any kP t1P a1P n1P c1P t2P a2P n2P c2P hasP asdP b1P b2P _ P11.out.lk (P11.out.at1.below D0.out) (P11.out.at2.below D0.out) P11.out.l1 P11.out.l2 ⟨(K11.out.next D0.out).tabs⟩).mono ?_; rewrite [HMx.out]; rintro e u1 h9; obtain ⟨q1a, q1m, q1c, q1A, q1M, q1C, rfl, hn1, hn2, hA, _, hB⟩ := h9.at_; have D1 : Hd (Below v20.heap.size v20 u1) := ⟨Below.next D0.out hB⟩; have Q1 : Hd (CellAt u1 q1a q1m q1c b1x ∧ CellAt u1 q1A q1M q1C b2x) := ⟨hA.one.at_ hn1, hA.two.at_ hn2⟩; clear h9 hn1 hn2 hA hB))
    clear cp0 cp1 cp2 cp3 cp4 cp5 cp6 cd0 cd1 cd2 cd3 cd4 cd5 cd6 ce0 ce1 ce2 ce3 ce4 ce5 ce6 cg0 cg1 cg2 cg3 cg4 cg5 cg6
    clear P11
    clear M11
    clear E11
    clear G11
    clear H11
    have K12 : Hd (CStays w a0 len0 bs u11) := ⟨K11.out.next D11.out⟩
    have R12 : Hd (RBx pR kR t1R a1R n1R c1R b1R t2R a2R n2R c2R b2R hasR asdR u11) := ⟨R11.out.below D11.out⟩
    have F12 : Hd (RBx pF kF t1F a1F n1F c1F b1F t2F a2F n2F c2F b2F hasF asdF u11) := ⟨F11.out.below D11.out⟩
    have C12 : Hd (RBx pC kC t1C a1C n1C c1C b1C t2C a2C n2C c2C b2C hasC asdC u11) := ⟨C11.out.below D11.out⟩
    have B12 : Hd (RBx pB kB t1B a1B n1B c1B b1B t2B a2B n2B c2B b2B hasB asdB u11) := ⟨B11.out.below D11.out⟩
    clear K11 R11 F11 C11 B11
    clear KK D0 D1 D2 D3 D4 D5 D6 D7 D8 D9 D10 D11
    have tc := turned_cases HOK.out HMF.out HMC.out HMB.out
    dsimp only at tc
    have e32 := bits_32
    have e22 := bits_22
    have e12 := bits_12
    rcases tc with ⟨rfl, rfl, rfl, rfl, rfl, rfl⟩ | ⟨rfl, rfl, rfl, rfl, rfl, rfl⟩ | ⟨rfl, rfl, rfl, rfl, rfl⟩ | ⟨rfl, rfl, rfl, rfl⟩
    · obtain ⟨cr0, cr1, cr2, cr3, cr4, cr5, cr6⟩ := cells7 _ pR _ _ _ _ _ _ _ _ R12.out.box
      obtain ⟨cf0, cf1, cf2, cf3, cf4, cf5, cf6⟩ := cells7 _ pF _ _ _ _ _ _ _ _ F12.out.box
      obtain ⟨cc0, cc1, cc2, cc3, cc4, cc5, cc6⟩ := cells7 _ pC _ _ _ _ _ _ _ _ C12.out.box
      obtain ⟨cb0, cb1, cb2, cb3, cb4, cb5, cb6⟩ := cells7 _ pB _ _ _ _ _ _ _ _ B12.out.box
      go_wp2_with fail
      refine (sameCell_true _ _ _ _ _ _ _ _ _ B12.out.at1 R12.out.at1).mono ?_
      rintro e y1 ⟨rfl, hB⟩
      have KZ : Hd (CStays w a0 len0 bs y1) := ⟨K12.out.next hB⟩
      clear hB
      clear cr0 cr1 cr2 cr3 cr4 cr5 cr6 cf0 cf1 cf2 cf3 cf4 cf5 cf6 cc0 cc1 cc2 cc3 cc4 cc5 cc6 cb0 cb1 cb2 cb3 cb4 cb5 cb6
      go_wp2_with fail
      go_ret
      exact ⟨rfl, KZ.out.below⟩
    · obtain ⟨cr0, cr1, cr2, cr3, cr4, cr5, cr6⟩ := cells7 _ pR _ _ _ _ _ _ _ _ R12.out.box
      obtain ⟨cf0, cf1, cf2, cf3, cf4, cf5, cf6⟩ := cells7 _ pF _ _ _ _ _ _ _ _ F12.out.box
      obtain ⟨cc0, cc1, cc2, cc3, cc4, cc5, cc6⟩ := cells7 _ pC _ _ _ _ _ _ _ _ C12.out.box
      obtain ⟨cb0, cb1, cb2, cb3, cb4, cb5, cb6⟩ := cells7 _ pB _ _ _ _ _ _ _ _ B12.out.box
      go_wp2_with fail
      go_ret
      exact ⟨rfl, K12.out.below⟩
    · obtain ⟨cr0, cr1, cr2, cr3, cr4, cr5, cr6⟩ := cells7 _ pR _ _ _ _ _ _ _ _ R12.out.box
      obtain ⟨cf0, cf1, cf2, cf3, cf4, cf5, cf6⟩ := cells7 _ pF _ _ _ _ _ _ _ _ F12.out.box
      obtain ⟨cc0, cc1, cc2, cc3, cc4, cc5, cc6⟩ := cells7 _ pC _ _ _ _ _ _ _ _ C12.out.box
      obtain ⟨cb0, cb1, cb2, cb3, cb4, cb5, cb6⟩ := cells7 _ pB _ _ _ _ _ _ _ _ B12.out.box
      go_wp2_with fail
      go_ret
      exact ⟨rfl, K12.out.below⟩
    · obtain ⟨cr0, cr1, cr2, cr3, cr4, cr5, cr6⟩ := cells7 _ pR _ _ _ _ _ _ _ _ R12.out.box
      obtain ⟨cf0, cf1, cf2, cf3, cf4, cf5, cf6⟩ := cells7 _ pF _ _ _ _ _ _ _ _ F12.out.box
      obtain ⟨cc0, cc1, cc2, cc3, cc4, cc5, cc6⟩ := cells7 _ pC _ _ _ _ _ _ _ _ C12.out.box
      obtain ⟨cb0, cb1, cb2, cb3, cb4, cb5, cb6⟩ := cells7 _ pB _ _ _ _ _ _ _ _ B12.out.box
      go_wp2_with fail
      go_ret
      exact ⟨rfl, K12.out.below⟩

set_option maxRecDepth 100000 in
theorem lifted (os : Os) (started : os.Started) (H : Type) (enc : TypeId × Value → H) :
    ReturnsInHanded {} Tryz.checked os 4 .any (fun w args => (Rows.fnTurnedSpec.pre enc Tryz.prog Tryz.f4 Rows.fnTurnedRow.domain false w args ∧ laidMetH Tryz.prog Rows.fnTurnedRow.laid w) ∧ sizedMet enc Tryz.prog Tryz.f4 (OpenSpec.ofChange Rows.fnTurnedSpec) false w args)
      (Rows.fnTurnedSpec.post enc Tryz.prog Tryz.f4 false true false false) := by
  refine returnsInHanded_of_change_and (C := Tryz.checked) (X := fun w _ => laidMetH Tryz.prog Rows.fnTurnedRow.laid w) (fun _ _ _ hh h => h.of_heap hh) own started (by kernel_rfl) Tryz.func4
    (ChangeSpec.witness_shaped (enc := enc) (C := Tryz.checked) (os := os) (X := fun w _ => laidMetH Tryz.prog Rows.fnTurnedRow.laid w) false (World.laidAll Tryz.prog os Rows.fnTurnedRow.laid) #[.slice none 0 0] 8 (World.laidAll_os _ _ _)
      (World.shaped_of_ZipB (by kernel_rfl) (by kernel_rfl)) (by kernel_rfl) (by kernel_rfl) (by kernel_rfl)
      (by rw [MakeChecks.laidMetH_plain _ _ _ (by kernel_rfl)]; exact laidMet_laidAll _ (by kernel_rfl) (by kernel_rfl))) ?_
  intro W base args ds gs before hval0 hW _ _ hL _
  have hval : ∀ (j : Nat) t v, Tryz.f4.params[j]? = some t → args[j]? = some v → Value.okWide Tryz.prog W .any base t v := hval0
  have hW' := hW
  obtain ⟨p, q, hA0, hV, rfl, hfz, hnd⟩ := hW
  have hA : DataW.TrodAll enc Tryz.prog W 0 (fun _ => true) true Tryz.f4.params.toList args.toList ds p := hA0
  rw [Tryz.params4] at hA hval
  obtain ⟨v0, vs0, d0, ds0, p0, q0, hargs, rfl, rfl, h0, r0⟩ := trodAll_cons hA
  obtain ⟨rfl, rfl, rfl⟩ := trodAll_nil r0
  obtain rfl : args = #[v0] := by cases args; simp_all
  have hV1 : DataW.TrodVars enc Tryz.prog W (fun _ => true) Rows.fnTurnedSpec.vars gs q := hV
  obtain ⟨g1, g2, g3, g4, rfl⟩ : ∃ g1 g2 g3 g4, gs = [g1, g2, g3, g4] := by
    match gs, (vars_length hV1 : gs.length = 4) with
    | [g1, g2, g3, g4], _ => exact ⟨g1, g2, g3, g4, rfl⟩
  obtain ⟨a0, len0, cap0, rfl⟩ := okWide_slice Tryz.underlying22 (hval 0 22 v0 rfl rfl)
  have k0 := h0
  have lt0 : ∀ x ∈ p0, x.block < W.heap.size := by obtain ⟨m, hm⟩ := k0; exact DataW.trod_lt m _ _ _ hm
  obtain ⟨z0, w0⟩ : ∃ zs, IsRow .u8 W a0 len0 cap0 zs := by
    obtain ⟨fuel, hf⟩ := h0
    rcases open_ints Tryz.underlying22 Tryz.underlying5 (by kernel_rfl) hf with ⟨hcs, _⟩ | ⟨x, l, c, zs, hcs, _, hl, hm, hz, _, hcell, hwz⟩
    · simp [Value.cells] at hcs
      obtain ⟨rfl, rfl, rfl⟩ := hcs
      exact ⟨[], .inl ⟨rfl, rfl, rfl, rfl⟩⟩
    · simp [Value.cells] at hcs
      obtain ⟨rfl, rfl, rfl⟩ := hcs
      exact ⟨zs, .inr ⟨_, rfl, hl, hm, by simpa using hz, hcell, hwz⟩⟩
  clear hA0 hval0
  refine (walk a0 len0 cap0 z0 W w0 ⟨all_of hL⟩).mono fun e W' ⟨he, hg⟩ => ?_
  subst he
  exact ⟨_, rfl, _, _, _, [], _, q, hW', trodAll_mk1 (shut_bool Tryz.underlying4 _), (trodAll_cons_mk (Below.trod laidOut (by kernel_rfl) (of_decide_eq_true (by kernel_rfl)) k0 hg lt0) trodAll_mk0), Below.trodVars laidOut hg (by kernel_rfl) hV1, hg.frame _, fun h => by cases h⟩

theorem over : Rows.fnTurnedRow.holds Tryz.pinned (OpenSpec.ofChange Rows.fnTurnedSpec) :=
  OpenClaim.holds_of_wide 4 Tryz.f4 rfl rfl rfl rfl rfl rfl rfl ⟨rfl, rfl, rfl, rfl, rfl⟩ rfl rfl rfl rfl rfl (by kernel_rfl) Tryz.func4 (by kernel_rfl)
    (of_decide_eq_true (by kernel_rfl)) (by unfold Func.isWrapper; first | (rw [if_pos (by decide +kernel)]; kernel_rfl) | (rw [if_neg (by decide +kernel)]; exact ⟨rfl, rfl⟩))
    (fun os started H enc _ => lifted os started H enc)

theorem plain (f : FuncId) (fn : Func) (hf : Tryz.pinned.checked.prog.funcNamed Rows.fnTurnedRow.func = some f) (hfn : Tryz.pinned.checked.prog.funcs[f]? = some fn) :
    true = Tryz.pinned.checked.prog.looks [] ∧ ∀ (j : Nat) t, fn.params[j]? = some t → Tryz.pinned.checked.prog.wantsStandIn t = false := by
  obtain rfl : f = 4 := Option.some.inj ((show Tryz.prog.funcNamed Rows.fnTurnedRow.func = some 4 by kernel_rfl).symm.trans hf) |>.symm
  obtain rfl : fn = Tryz.f4 := (Option.some.inj (Tryz.func4.symm.trans hfn)).symm
  refine ⟨by kernel_rfl, fun j t ht => ?_⟩
  rw [Tryz.params4] at ht
  have hm : t ∈ [22] := by first | simpa using Array.mem_of_getElem? ht | (have h := Array.mem_of_getElem? ht; simp at h ⊢; rcases h with h | h | h | h <;> simp [h])
  have hall : ([22].all fun u => !Tryz.prog.wantsStandIn u) = true := by kernel_rfl
  exact (show Tryz.prog.wantsStandIn t = false by simpa using List.all_eq_true.1 hall t hm)

end Go.Proofs.YtpafjehphajbhaaGreatDoor.fnTurned

namespace Go.Proofs.YtpafjehphajbhaaGreatDoor
theorem fnTurnedCard_holds : Rows.FnTurnedCardSaid :=
  Claim7.holds_tied_plain_at .later [] _ _ _ _ fnTurned.over (fun _ h => by cases h) (by kernel_rfl) (fun _ h => by cases h) fnTurned_row_tie rfl ⟨rfl, rfl⟩ (by kernel_rfl) rfl fnTurned.plain (by kernel_rfl)
#print axioms fnTurnedCard_holds
end Go.Proofs.YtpafjehphajbhaaGreatDoor
