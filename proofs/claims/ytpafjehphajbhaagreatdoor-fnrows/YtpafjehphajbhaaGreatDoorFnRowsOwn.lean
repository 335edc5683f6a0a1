/- For every code that is drawn from: what is written in a phase is read as it was written; filled, cut or turned back a row has the same text and the same key, and is right; done once more it is as it was. -/
import Derived.Test.YtpafjehphajbhaaGreatDoorCards
import Derived.Test.YtpafjehphajbhaaGreatDoorTie
import Derived.WalkKit
import Derived.ProofKit
import Derived.OpenShut
import Derived.ShutString
import Derived.ChangeOld
import Derived.Below
import Derived.OpenVars
import Derived.Lay
import Derived.MakeChecks
import Derived.SevenTiedAt
import Derived.Stop.Joined
import Derived.Lib.SmallJoins
import Derived.Test.YtpafjehphajbhaaGreatDoorRowRZ
namespace Go.Proofs.YtpafjehphajbhaaGreatDoor.fnRows
open Go.ChangeShapes Go.WideShapes Go.ChangeAt Go.RowKit
open Go.ChangeMaps (open_string shut_string)
set_option linter.unusedVariables false

theorem own : ownKnob Tryz.prog.godebug = none := by kernel_rfl
theorem laidOut : laidOutB Tryz.prog = true := by kernel_rfl

def IsRow (k : IntKind) (w : World) (a : Option Addr) (len cap : Nat) (zs : List Int) : Prop :=
  (a = none ∧ len = 0 ∧ cap = 0 ∧ zs = []) ∨
  ∃ x, a = some x ∧ len ≤ cap ∧ cap ≤ maxLen ∧ zs.length = cap ∧ (∀ i, i < zs.length → w.cell? (x.add i) = some (.int k (zs.getD i 0))) ∧ ∀ n ∈ zs, (Lit.int k n).wf = true

set_option maxRecDepth 4000 in
set_option maxHeartbeats 40000000 in
theorem walk (a0 : Option Addr) (len0 cap0 : Nat) (z0 : List Int) (w : World) (w0 : IsRow .u8 w a0 len0 cap0 z0) (T : Hd (AllAt w)) :
    Calls Tryz.prog 3 #[.slice a0 len0 cap0] w fun e w' => e = .returned (.bool true) ∧ Below w.heap.size w w' := by
  obtain ⟨bs, hr⟩ := reads_of_row w0
  have K0 : Hd (CStays w a0 len0 bs w) := ⟨CStays.start T.out hr⟩
  clear hr w0 T
  by_cases hb : (1048576 : Int) < (len0 : Int)
  · have hbd : decide ((1048576 : Int) < (len0 : Int)) = true := decide_eq_true hb
    go_enter Tryz.func3, Tryz.ntmps3
    go_wp2_with (go_at_call 5; refine (big_any _ _ _ _).mono ?_; rintro e w' ⟨rfl, rfl⟩)
    go_ret
    exact ⟨rfl, Below.refl _ _⟩
  · have hbd : decide ((1048576 : Int) < (len0 : Int)) = false := decide_eq_false hb
    have hl : len0 ≤ 1073741824 := by omega
    go_enter Tryz.func3, Tryz.ntmps3
    go_wp2_with fail
    refine (big_any _ _ _ _).mono ?_
    rintro e w' ⟨rfl, hw'⟩
    replace hw' := hw'.symm
    subst hw'
    clear hbd
    go_wp2_with fail
    refine (drawRowOf_any a0 len0 cap0 bs _ hl K0.out.reads).mono ?_
    rintro e v1 ⟨pp, ky, cz, st, rfl, hks, hss, hB⟩
    have HKY : Hd (ky.size ≤ 7) := ⟨hks⟩
    have HST : Hd (st.size ≤ 28) := ⟨hss⟩
    have K1 : Hd (CStays w a0 len0 bs v1) := ⟨K0.out.next hB⟩
    clear K0  
    clear hks hss hB
    obtain ⟨⟨kV, t1V, b1V, t2V, b2V, hasV, asdV⟩, h1⟩ : ∃ r, rowV pp ky cz st.data.toList = r := ⟨_, rfl⟩
    have HRV : Hd (rowV pp ky cz st.data.toList = ⟨kV, t1V, b1V, t2V, b2V, hasV, asdV⟩) := ⟨h1⟩
    clear h1
    obtain ⟨cd, h1⟩ : ∃ x, rowC pp ky cz st.data.toList = x := ⟨_, rfl⟩
    have HCV : Hd (rowC pp ky cz st.data.toList = cd) := ⟨h1⟩
    clear h1
    have HSV : Hd (Small ⟨kV, t1V, b1V, t2V, b2V, hasV, asdV⟩) := ⟨by rw [← HRV.out]; exact small_rowV HKY.out⟩
    have HWV : Hd (cd = 0 → rOk ⟨kV, t1V, b1V, t2V, b2V, hasV, asdV⟩ = true ∧ rS ⟨kV, t1V, b1V, t2V, b2V, hasV, asdV⟩ = st.data.toList ∧ rT ⟨kV, t1V, b1V, t2V, b2V, hasV, asdV⟩ = true ∧ ky = kV) := ⟨fun e => by have h9 := wrote (HCV.out.trans e); rw [HRV.out] at h9; exact ⟨h9.1, h9.2.1, h9.2.2.1, h9.2.2.2.symm⟩⟩
    have cdf : (cd != cd) = false := by simp
    go_wp2_with fail
    refine (implRowOf_any pp ky cz st _ (by have := HKY.out; omega) (by have := HST.out; omega) ⟨K1.out.tabs⟩).mono ?_
    rewrite [HRV.out, HCV.out]
    rintro e v2 h9
    obtain ⟨a1V, n1V, c1V, a2V, n2V, c2V, rfl, hn1, hn2, hA, _, hB⟩ := h9.at_
    have K2 : Hd (CStays w a0 len0 bs (v2.alloc (.cells #[.string kV, .int .i64 t1V, .slice a1V n1V c1V, .int .i64 t2V, .slice a2V n2V c2V, .int .i64 hasV, .bool asdV] 29))) := ⟨(K1.out.next hB).next (below_lit v2 _)⟩
    clear K1  
    have V2 : Hd (RBx v2.heap.size kV t1V a1V n1V c1V b1V t2V a2V n2V c2V b2V hasV asdV (v2.alloc (.cells #[.string kV, .int .i64 t1V, .slice a1V n1V c1V, .int .i64 t2V, .slice a2V n2V c2V, .int .i64 hasV, .bool asdV] 29))) := ⟨rBx_new (hA.one.at_ hn1) (hA.two.at_ hn2) HSV.out⟩
    generalize hd : v2.heap.size = pV at *
    clear h9 hn1 hn2 hA hB
    go_wp2_with fail
    generalize hw : v2.alloc (.cells #[.string kV, .int .i64 t1V, .slice a1V n1V c1V, .int .i64 t2V, .slice a2V n2V c2V, .int .i64 hasV, .bool asdV] 29) = v3 at *
    clear hd hw
    refine (specRowOf_any pp ky cz st _ (by have := HKY.out; omega) (by have := HST.out; omega)).mono ?_
    rewrite [HRV.out, HCV.out]
    rintro e v4 h9
    obtain ⟨a1X, n1X, c1X, a2X, n2X, c2X, rfl, hn1, hn2, hA, _, hB⟩ := h9.at_
    have K3 : Hd (CStays w a0 len0 bs (v4.alloc (.cells #[.string kV, .int .i64 t1V, .slice a1X n1X c1X, .int .i64 t2V, .slice a2X n2X c2X, .int .i64 hasV, .bool asdV] 29))) := ⟨(K2.out.next hB).next (below_lit v4 _)⟩
    have V3 : Hd (RBx pV kV t1V a1V n1V c1V b1V t2V a2V n2V c2V b2V hasV asdV (v4.alloc (.cells #[.string kV, .int .i64 t1V, .slice a1X n1X c1X, .int .i64 t2V, .slice a2X n2X c2X, .int .i64 hasV, .bool asdV] 29))) := ⟨(V2.out.below hB).below (below_lit v4 _)⟩
    clear K2 V2 
    have X3 : Hd (RBx v4.heap.size kV t1V a1X n1X c1X b1V t2V a2X n2X c2X b2V hasV asdV (v4.alloc (.cells #[.string kV, .int .i64 t1V, .slice a1X n1X c1X, .int .i64 t2V, .slice a2X n2X c2X, .int .i64 hasV, .bool asdV] 29))) := ⟨rBx_new (hA.one.at_ hn1) (hA.two.at_ hn2) HSV.out⟩
    generalize hd : v4.heap.size = pX at *
    clear h9 hn1 hn2 hA hB
    obtain ⟨cv0, cv1, cv2, cv3, cv4, cv5, cv6⟩ := cells7 _ pV _ _ _ _ _ _ _ _ V3.out.box
    obtain ⟨cx0, cx1, cx2, cx3, cx4, cx5, cx6⟩ := cells7 _ pX _ _ _ _ _ _ _ _ X3.out.box
    go_wp2_with fail
    generalize hw : v4.alloc (.cells #[.string kV, .int .i64 t1V, .slice a1X n1X c1X, .int .i64 t2V, .slice a2X n2X c2X, .int .i64 hasV, .bool asdV] 29) = v5 at *
    clear hd hw
    clear cv0 cv1 cv2 cv3 cv4 cv5 cv6 cx0 cx1 cx2 cx3 cx4 cx5 cx6
    refine (sameRow_true kV t1V a1V n1V c1V t2V a2V n2V c2V hasV asdV a1X n1X c1X a2X n2X c2X b1V b2V _ V3.out.at1 V3.out.at2 X3.out.at1 X3.out.at2).mono ?_
    rintro e v6 ⟨rfl, hB⟩
    have K4 : Hd (CStays w a0 len0 bs v6) := ⟨K3.out.next hB⟩
    have V4 : Hd (RBx pV kV t1V a1V n1V c1V b1V t2V a2V n2V c2V b2V hasV asdV v6) := ⟨V3.out.below hB⟩
    have X4 : Hd (RBx pX kV t1V a1X n1X c1X b1V t2V a2X n2X c2X b2V hasV asdV v6) := ⟨X3.out.below hB⟩
    clear K3 V3 X3 
    clear hB
    clear X4
    by_cases hc0 : cd = 0
    · subst hc0
      obtain ⟨w1, w2, w3, w4⟩ := HWV.out (by simp)
      subst w4
      have HOV : Hd (rOk ⟨ky, t1V, b1V, t2V, b2V, hasV, asdV⟩ = true) := ⟨w1⟩
      have HTV : Hd ((⟨(rS ⟨ky, t1V, b1V, t2V, b2V, hasV, asdV⟩).toArray⟩ : ByteArray) = st) := ⟨by rw [w2]⟩
      have HRT : Hd (rT ⟨ky, t1V, b1V, t2V, b2V, hasV, asdV⟩ = true) := ⟨w3⟩
      clear w1 w2 w3
      obtain ⟨cv0, cv1, cv2, cv3, cv4, cv5, cv6⟩ := cells7 _ pV _ _ _ _ _ _ _ _ V4.out.box
      go_wp2_with fail
      clear cv0 cv1 cv2 cv3 cv4 cv5 cv6
      refine (implRowText_any ky t1V a1V n1V c1V t2V a2V n2V c2V hasV asdV b1V b2V _ V4.out.at1 V4.out.at2 V4.out.l1 V4.out.l2 ⟨K4.out.tabs⟩).mono ?_
      rintro e v7 ⟨rfl, hB⟩
      rewrite [HTV.out, HRT.out]
      have K5 : Hd (CStays w a0 len0 bs v7) := ⟨K4.out.next hB⟩
      have V5 : Hd (RBx pV ky t1V a1V n1V c1V b1V t2V a2V n2V c2V b2V hasV asdV v7) := ⟨V4.out.below hB⟩
      clear K4 V4 
      clear hB
      have stf : (st.toList != st.toList) = false := by simp
      have kyf : (ky.toList != ky.toList) = false := by simp
      obtain ⟨cv0, cv1, cv2, cv3, cv4, cv5, cv6⟩ := cells7 _ pV _ _ _ _ _ _ _ _ V5.out.box
      go_wp2_with fail
      clear cv0 cv1 cv2 cv3 cv4 cv5 cv6
      refine (implRowOk_any ky t1V a1V n1V c1V t2V a2V n2V c2V hasV asdV b1V b2V _ V5.out.lk V5.out.at1 V5.out.at2 V5.out.l1 V5.out.l2 ⟨K5.out.tabs⟩).mono ?_
      rintro e v8 ⟨rfl, hB⟩
      rewrite [HOV.out]
      have K6 : Hd (CStays w a0 len0 bs v8) := ⟨K5.out.next hB⟩
      have V6 : Hd (RBx pV ky t1V a1V n1V c1V b1V t2V a2V n2V c2V b2V hasV asdV v8) := ⟨V5.out.below hB⟩
      clear K5 V5 
      clear hB
      obtain ⟨cv0, cv1, cv2, cv3, cv4, cv5, cv6⟩ := cells7 _ pV _ _ _ _ _ _ _ _ V6.out.box
      go_wp2_with fail
      clear cv0 cv1 cv2 cv3 cv4 cv5 cv6
      clear V6
      refine (drawRow_any a0 len0 cap0 bs _ hl K6.out.reads).mono ?_
      rintro e v9 h9
      obtain ⟨kR, t1R, b1R, t2R, b2R, hasR, asdR, a1R, n1R, c1R, a2R, n2R, c2R, rfl, hok, hs, hc1, hc2, hB⟩ := h9.at_
      have HOK : Hd (rOk ⟨kR, t1R, b1R, t2R, b2R, hasR, asdR⟩ = true) := ⟨hok⟩
      clear hok
      have K7 : Hd (CStays w a0 len0 bs (v9.alloc (.cells #[.string kR, .int .i64 t1R, .slice a1R n1R c1R, .int .i64 t2R, .slice a2R n2R c2R, .int .i64 hasR, .bool asdR] 29))) := ⟨(K6.out.next hB).next (below_lit v9 _)⟩
      clear K6  
      have R7 : Hd (RBx v9.heap.size kR t1R a1R n1R c1R b1R t2R a2R n2R c2R b2R hasR asdR (v9.alloc (.cells #[.string kR, .int .i64 t1R, .slice a1R n1R c1R, .int .i64 t2R, .slice a2R n2R c2R, .int .i64 hasR, .bool asdR] 29))) := ⟨rBx_new hc1 hc2 hs⟩
      generalize hd : v9.heap.size = pR at *
      clear h9 hs hc1 hc2 hB
      obtain ⟨S, h1⟩ : ∃ x, (rS ⟨kR, t1R, b1R, t2R, b2R, hasR, asdR⟩).toArray = x := ⟨_, rfl⟩
      have HSS : Hd ((rS ⟨kR, t1R, b1R, t2R, b2R, hasR, asdR⟩).toArray = S) := ⟨h1⟩
      clear h1
      obtain ⟨tk, h1⟩ : ∃ x, rT ⟨kR, t1R, b1R, t2R, b2R, hasR, asdR⟩ = x := ⟨_, rfl⟩
      have HTK : Hd (rT ⟨kR, t1R, b1R, t2R, b2R, hasR, asdR⟩ = tk) := ⟨h1⟩
      clear h1
      obtain ⟨cr0, cr1, cr2, cr3, cr4, cr5, cr6⟩ := cells7 _ pR _ _ _ _ _ _ _ _ R7.out.box
      go_wp2_with fail
      generalize hw : v9.alloc (.cells #[.string kR, .int .i64 t1R, .slice a1R n1R c1R, .int .i64 t2R, .slice a2R n2R c2R, .int .i64 hasR, .bool asdR] 29) = v10 at *
      clear hd hw
      clear cr0 cr1 cr2 cr3 cr4 cr5 cr6
      refine (implRowText_any kR t1R a1R n1R c1R t2R a2R n2R c2R hasR asdR b1R b2R _ R7.out.at1 R7.out.at2 R7.out.l1 R7.out.l2 ⟨K7.out.tabs⟩).mono ?_
      rintro e v11 ⟨rfl, hB⟩
      rewrite [HSS.out, HTK.out]
      have K8 : Hd (CStays w a0 len0 bs v11) := ⟨K7.out.next hB⟩
      have R8 : Hd (RBx pR kR t1R a1R n1R c1R b1R t2R a2R n2R c2R b2R hasR asdR v11) := ⟨R7.out.below hB⟩
      clear K7 R7 
      clear hB
      obtain ⟨⟨kF, t1F, b1F, t2F, b2F, hasF, asdF⟩, h1⟩ : ∃ r, fillR ⟨kR, t1R, b1R, t2R, b2R, hasR, asdR⟩ = r := ⟨_, rfl⟩
      have st1 : Stays9 ⟨kR, t1R, b1R, t2R, b2R, hasR, asdR⟩ ⟨kF, t1F, b1F, t2F, b2F, hasF, asdF⟩ := by rw [← h1]; exact fill_stays HOK.out
      have hkk : kR = kF := st1.key.symm
      subst hkk
      have HYF : Hd (Stays9 ⟨kR, t1R, b1R, t2R, b2R, hasR, asdR⟩ ⟨kR, t1F, b1F, t2F, b2F, hasF, asdF⟩) := ⟨st1⟩
      have HMF : Hd (fillR ⟨kR, t1R, b1R, t2R, b2R, hasR, asdR⟩ = ⟨kR, t1F, b1F, t2F, b2F, hasF, asdF⟩) := ⟨h1⟩
      clear h1 st1
      obtain ⟨⟨kC, t1C, b1C, t2C, b2C, hasC, asdC⟩, h1⟩ : ∃ r, cutR ⟨kR, t1R, b1R, t2R, b2R, hasR, asdR⟩ = r := ⟨_, rfl⟩
      have st1 : Stays9 ⟨kR, t1R, b1R, t2R, b2R, hasR, asdR⟩ ⟨kC, t1C, b1C, t2C, b2C, hasC, asdC⟩ := by rw [← h1]; exact cut_stays HOK.out
      have hkk : kR = kC := st1.key.symm
      subst hkk
      have HYC : Hd (Stays9 ⟨kR, t1R, b1R, t2R, b2R, hasR, asdR⟩ ⟨kR, t1C, b1C, t2C, b2C, hasC, asdC⟩) := ⟨st1⟩
      have HMC : Hd (cutR ⟨kR, t1R, b1R, t2R, b2R, hasR, asdR⟩ = ⟨kR, t1C, b1C, t2C, b2C, hasC, asdC⟩) := ⟨h1⟩
      clear h1 st1
      obtain ⟨⟨kB, t1B, b1B, t2B, b2B, hasB, asdB⟩, h1⟩ : ∃ r, backR ⟨kR, t1R, b1R, t2R, b2R, hasR, asdR⟩ = r := ⟨_, rfl⟩
      have st1 : Stays9 ⟨kR, t1R, b1R, t2R, b2R, hasR, asdR⟩ ⟨kB, t1B, b1B, t2B, b2B, hasB, asdB⟩ := by rw [← h1]; exact back_stays HOK.out
      have hkk : kR = kB := st1.key.symm
      subst hkk
      have HYB : Hd (Stays9 ⟨kR, t1R, b1R, t2R, b2R, hasR, asdR⟩ ⟨kR, t1B, b1B, t2B, b2B, hasB, asdB⟩) := ⟨st1⟩
      have HMB : Hd (backR ⟨kR, t1R, b1R, t2R, b2R, hasR, asdR⟩ = ⟨kR, t1B, b1B, t2B, b2B, hasB, asdB⟩) := ⟨h1⟩
      clear h1 st1
      obtain ⟨⟨kZ, t1Z, b1Z, t2Z, b2Z, hasZ, asdZ⟩, h1⟩ : ∃ r, cutR ⟨kR, t1F, b1F, t2F, b2F, hasF, asdF⟩ = r := ⟨_, rfl⟩
      have st1 : Stays9 ⟨kR, t1R, b1R, t2R, b2R, hasR, asdR⟩ ⟨kZ, t1Z, b1Z, t2Z, b2Z, hasZ, asdZ⟩ := by rw [← h1]; exact HYF.out.trans (cut_stays HYF.out.ok)
      have hkk : kR = kZ := st1.key.symm
      subst hkk
      have HYZ : Hd (Stays9 ⟨kR, t1R, b1R, t2R, b2R, hasR, asdR⟩ ⟨kR, t1Z, b1Z, t2Z, b2Z, hasZ, asdZ⟩) := ⟨st1⟩
      have HMZ : Hd (cutR ⟨kR, t1F, b1F, t2F, b2F, hasF, asdF⟩ = ⟨kR, t1Z, b1Z, t2Z, b2Z, hasZ, asdZ⟩) := ⟨h1⟩
      clear h1 st1
      obtain ⟨⟨kY, t1Y, b1Y, t2Y, b2Y, hasY, asdY⟩, h1⟩ : ∃ r, backR ⟨kR, t1F, b1F, t2F, b2F, hasF, asdF⟩ = r := ⟨_, rfl⟩
      have st1 : Stays9 ⟨kR, t1R, b1R, t2R, b2R, hasR, asdR⟩ ⟨kY, t1Y, b1Y, t2Y, b2Y, hasY, asdY⟩ := by rw [← h1]; exact HYF.out.trans (back_stays HYF.out.ok)
      have hkk : kR = kY := st1.key.symm
      subst hkk
      have HYY : Hd (Stays9 ⟨kR, t1R, b1R, t2R, b2R, hasR, asdR⟩ ⟨kR, t1Y, b1Y, t2Y, b2Y, hasY, asdY⟩) := ⟨st1⟩
      have HMY : Hd (backR ⟨kR, t1F, b1F, t2F, b2F, hasF, asdF⟩ = ⟨kR, t1Y, b1Y, t2Y, b2Y, hasY, asdY⟩) := ⟨h1⟩
      clear h1 st1
      have HSF : Hd ((rS ⟨kR, t1F, b1F, t2F, b2F, hasF, asdF⟩).toArray = S) := ⟨by rw [HYF.out.s]; exact HSS.out⟩
      have HTF : Hd (rT ⟨kR, t1F, b1F, t2F, b2F, hasF, asdF⟩ = tk) := ⟨HYF.out.t.trans HTK.out⟩
      have HOF : Hd (rOk ⟨kR, t1F, b1F, t2F, b2F, hasF, asdF⟩ = true) := ⟨HYF.out.ok⟩
      have HSC : Hd ((rS ⟨kR, t1C, b1C, t2C, b2C, hasC, asdC⟩).toArray = S) := ⟨by rw [HYC.out.s]; exact HSS.out⟩
      have HTC : Hd (rT ⟨kR, t1C, b1C, t2C, b2C, hasC, asdC⟩ = tk) := ⟨HYC.out.t.trans HTK.out⟩
      have HOC : Hd (rOk ⟨kR, t1C, b1C, t2C, b2C, hasC, asdC⟩ = true) := ⟨HYC.out.ok⟩
      have HSB : Hd ((rS ⟨kR, t1B, b1B, t2B, b2B, hasB, asdB⟩).toArray = S) := ⟨by rw [HYB.out.s]; exact HSS.out⟩
      have HTB : Hd (rT ⟨kR, t1B, b1B, t2B, b2B, hasB, asdB⟩ = tk) := ⟨HYB.out.t.trans HTK.out⟩
      have HOB : Hd (rOk ⟨kR, t1B, b1B, t2B, b2B, hasB, asdB⟩ = true) := ⟨HYB.out.ok⟩
      have HSZ : Hd ((rS ⟨kR, t1Z, b1Z, t2Z, b2Z, hasZ, asdZ⟩).toArray = S) := ⟨by rw [HYZ.out.s]; exact HSS.out⟩
      have HTZ : Hd (rT ⟨kR, t1Z, b1Z, t2Z, b2Z, hasZ, asdZ⟩ = tk) := ⟨HYZ.out.t.trans HTK.out⟩
      have HOZ : Hd (rOk ⟨kR, t1Z, b1Z, t2Z, b2Z, hasZ, asdZ⟩ = true) := ⟨HYZ.out.ok⟩
      have HSY : Hd ((rS ⟨kR, t1Y, b1Y, t2Y, b2Y, hasY, asdY⟩).toArray = S) := ⟨by rw [HYY.out.s]; exact HSS.out⟩
      have HTY : Hd (rT ⟨kR, t1Y, b1Y, t2Y, b2Y, hasY, asdY⟩ = tk) := ⟨HYY.out.t.trans HTK.out⟩
      have HOY : Hd (rOk ⟨kR, t1Y, b1Y, t2Y, b2Y, hasY, asdY⟩ = true) := ⟨HYY.out.ok⟩
      have HMa : Hd (Small ⟨kR, t1F, b1F, t2F, b2F, hasF, asdF⟩ ∧ Small ⟨kR, t1C, b1C, t2C, b2C, hasC, asdC⟩ ∧ Small ⟨kR, t1B, b1B, t2B, b2B, hasB, asdB⟩ ∧ Small ⟨kR, t1Z, b1Z, t2Z, b2Z, hasZ, asdZ⟩ ∧ Small ⟨kR, t1Y, b1Y, t2Y, b2Y, hasY, asdY⟩) := ⟨by rw [← HMF.out]; exact small_fill R8.out.sm, by rw [← HMC.out]; exact small_cut R8.out.sm, by rw [← HMB.out]; exact small_back R8.out.sm, by rw [← HMZ.out, ← HMF.out]; exact small_cut (small_fill R8.out.sm), by rw [← HMY.out, ← HMF.out]; exact small_back (small_fill R8.out.sm)⟩
      obtain ⟨cr0, cr1, cr2, cr3, cr4, cr5, cr6⟩ := cells7 _ pR _ _ _ _ _ _ _ _ R8.out.box
      go_wp2_with fail
      have KK : Hd (∀ w', Below v11.heap.size v11 w' → (w'.cell? ⟨pR, 0, none⟩ = some (.string kR) ∧ w'.cell? ⟨pR, 1, none⟩ = some (.int .i64 t1R) ∧ w'.cell? ⟨pR, 2, none⟩ = some (.slice a1R n1R c1R) ∧ w'.cell? ⟨pR, 3, none⟩ = some (.int .i64 t2R) ∧ w'.cell? ⟨pR, 4, none⟩ = some (.slice a2R n2R c2R) ∧ w'.cell? ⟨pR, 5, none⟩ = some (.int .i64 hasR) ∧ w'.cell? ⟨pR, 6, none⟩ = some (.bool asdR))) := ⟨fun w' hb => R8.out.cells hb⟩
      have D0 : Hd (Below v11.heap.size v11 v11.drew) := ⟨(Below.refl _ v11).drew⟩
      go_region_held (fun w' => w'.cell? ⟨pR, 0, none⟩ = some (.string kR) ∧ w'.cell? ⟨pR, 1, none⟩ = some (.int .i64 t1R) ∧ w'.cell? ⟨pR, 2, none⟩ = some (.slice a1R n1R c1R) ∧ w'.cell? ⟨pR, 3, none⟩ = some (.int .i64 t2R) ∧ w'.cell? ⟨pR, 4, none⟩ = some (.slice a2R n2R c2R) ∧ w'.cell? ⟨pR, 5, none⟩ = some (.int .i64 hasR) ∧ w'.cell? ⟨pR, 6, none⟩ = some (.bool asdR)) (first | (with_reducible exact KK.out _ D7.out) | (with_reducible exact KK.out _ (Below.next D7.out (below_lit _ _))) | (with_reducible exact KK.out _ D6.out) | (with_reducible exact KK.out _ D5.out) | (with_reducible exact KK.out _ D4.out) | (with_reducible exact KK.out _ D3.out) | (with_reducible exact KK.out _ D2.out) | (with_reducible exact KK.out _ D1.out) | (with_reducible exact KK.out _ D0.out)) (first | (have G1 := D6; clear G1; go_at_call 15; refine (implBackRow_any kR t1F q6a q6m q6c t2F q6A q6M q6C hasF asdF b1F b2F _ R8.out.lk Q6_6.out.1 Q6_6.out.2 (by have := Q6_6.out.1.size; have := HMa.out.1.s1; simp only at this; omega) (by have := Q6_6.out.2.size; have := HMa.out.1.s2; simp only at this; omega) ⟨(K8.out.next D6.out).tabs⟩).mono ?_; rewrite [HMY.out]; rintro e u7 h9; obtain ⟨q7a, q7m, q7c, q7A, q7M, q7C, rfl, hn1, hn2, hA, _, hB⟩ := h9.at_; have D7 : Hd (Below v11.heap.size v11 u7) := ⟨Below.next D6.out hB⟩; have Q1_7 : Hd (CellAt u7 q1a q1m q1c b1F ∧ CellAt u7 q1A q1M q1C b2F) := ⟨Q1_6.out.1.below hB, Q1_6.out.2.below hB⟩; have Q2_7 : Hd (CellAt u7 q2a q2m q2c b1C ∧ CellAt u7 q2A q2M q2C b2C) := ⟨Q2_6.out.1.below hB, Q2_6.out.2.below hB⟩; have Q3_7 : Hd (CellAt u7 q3a q3m q3c b1B ∧ CellAt u7 q3A q3M q3C b2B) := ⟨Q3_6.out.1.below hB, Q3_6.out.2.below hB⟩; have Q4_7 : Hd (CellAt u7 q4a q4m q4c b1F ∧ CellAt u7 q4A q4M q4C b2F) := ⟨Q4_6.out.1.below hB, Q4_6.out.2.below hB⟩; have Q5_7 : Hd (CellAt u7 q5a q5m q5c b1Z ∧ CellAt u7 q5A q5M q5C b2Z) := ⟨Q5_6.out.1.below hB, Q5_6.out.2.below hB⟩; have Q6_7 : Hd (CellAt u7 q6a q6m q6c b1F ∧ CellAt u7 q6A q6M q6C b2F) := ⟨Q6_6.out.1.below hB, Q6_6.out.2.below hB⟩; have Q7_7 : Hd (CellAt u7 q7a q7m q7c b1Y ∧ CellAt u7 q7A q7M q7C b2Y) := ⟨hA.one.at_ hn1, hA.two.at_ hn2⟩; clear h9 hn1 hn2 hA hB) | (have G1 := D5; clear G1; go_at_call 13; refine (implFillRow_any kR t1R a1R n1R c1R t2R a2R n2R c2R hasR asdR b1R b2R _ R8.out.lk (R8.out.at1.below D5.out) (R8.out.at2.below D5.out) R8.out.l1 R8.out.l2 ⟨(K8.out.next D5.out).tabs⟩).mono ?_; rewrite [HMF.out]; rintro e u6 h9; obtain ⟨q6a, q6m, q6c, q6A, q6M, q6C, rfl, hn1, hn2, hA, _, hB⟩ := h9.at_; have D6 : Hd (Below v11.heap.size v11 u6) := ⟨Below.next D5.out hB⟩; have Q1_6 : Hd (CellAt u6 q1a q1m q1c b1F ∧ CellAt u6 q1A q1M q1C b2F) := ⟨Q1_5.out.1.below hB, Q1_5.out.2.below hB⟩; have Q2_6 : Hd (CellAt u6 q2a q2m q2c b1C ∧ CellAt u6 q2A q2M q2C b2C) := ⟨Q2_5.out.1.below hB, Q2_5.out.2.below hB⟩; have Q3_6 : Hd (CellAt u6 q3a q3m q3c b1B ∧ CellAt u6 q3A q3M q3C b2B) := ⟨Q3_5.out.1.below hB, Q3_5.out.2.below hB⟩; have Q4_6 : Hd (CellAt u6 q4a q4m q4c b1F ∧ CellAt u6 q4A q4M q4C b2F) := ⟨Q4_5.out.1.below hB, Q4_5.out.2.below hB⟩; have Q5_6 : Hd (CellAt u6 q5a q5m q5c b1Z ∧ CellAt u6 q5A q5M q5C b2Z) := ⟨Q5_5.out.1.below hB, Q5_5.out.2.below hB⟩; have Q6_6 : Hd (CellAt u6 q6a q6m q6c b1F ∧ CellAt u6 q6A q6M q6C b2F) := ⟨hA.one.at_ hn1, hA.two.at_ hn2⟩; clear h9 hn1 hn2 hA hB) | (have G1 := D4; clear G1; go_at_call 14; refine (implCutRow_any kR t1F q4a q4m q4c t2F q4A q4M q4C hasF asdF b1F b2F _ R8.out.lk Q4_4.out.1 Q4_4.out.2 (by have := Q4_4.out.1.size; have := HMa.out.1.s1; simp only at this; omega) (by have := Q4_4.out.2.size; have := HMa.out.1.s2; simp only at this; omega) ⟨(K8.out.next D4.out).tabs⟩).mono ?_; rewrite [HMZ.out]; rintro e u5 h9; obtain ⟨q5a, q5m, q5c, q5A, q5M, q5C, rfl, hn1, hn2, hA, _, hB⟩ := h9.at_; have D5 : Hd (Below v11.heap.size v11 u5) := ⟨Below.next D4.out hB⟩; have Q1_5 : Hd (CellAt u5 q1a q1m q1c b1F ∧ CellAt u5 q1A q1M q1C b2F) := ⟨Q1_4.out.1.below hB, Q1_4.out.2.below hB⟩; have Q2_5 : Hd (CellAt u5 q2a q2m q2c b1C ∧ CellAt u5 q2A q2M q2C b2C) := ⟨Q2_4.out.1.below hB, Q2_4.out.2.below hB⟩; have Q3_5 : Hd (CellAt u5 q3a q3m q3c b1B ∧ CellAt u5 q3A q3M q3C b2B) := ⟨Q3_4.out.1.below hB, Q3_4.out.2.below hB⟩; have Q4_5 : Hd (CellAt u5 q4a q4m q4c b1F ∧ CellAt u5 q4A q4M q4C b2F) := ⟨Q4_4.out.1.below hB, Q4_4.out.2.below hB⟩; have Q5_5 : Hd (CellAt u5 q5a q5m q5c b1Z ∧ CellAt u5 q5A q5M q5C b2Z) := ⟨hA.one.at_ hn1, hA.two.at_ hn2⟩; clear h9 hn1 hn2 hA hB) | (have G1 := D3; clear G1; go_at_call 13; refine (implFillRow_any kR t1R a1R n1R c1R t2R a2R n2R c2R hasR asdR b1R b2R _ R8.out.lk (R8.out.at1.below D3.out) (R8.out.at2.below D3.out) R8.out.l1 R8.out.l2 ⟨(K8.out.next D3.out).tabs⟩).mono ?_; rewrite [HMF.out]; rintro e u4 h9; obtain ⟨q4a, q4m, q4c, q4A, q4M, q4C, rfl, hn1, hn2, hA, _, hB⟩ := h9.at_; have D4 : Hd (Below v11.heap.size v11 u4) := ⟨Below.next D3.out hB⟩; have Q1_4 : Hd (CellAt u4 q1a q1m q1c b1F ∧ CellAt u4 q1A q1M q1C b2F) := ⟨Q1_3.out.1.below hB, Q1_3.out.2.below hB⟩; have Q2_4 : Hd (CellAt u4 q2a q2m q2c b1C ∧ CellAt u4 q2A q2M q2C b2C) := ⟨Q2_3.out.1.below hB, Q2_3.out.2.below hB⟩; have Q3_4 : Hd (CellAt u4 q3a q3m q3c b1B ∧ CellAt u4 q3A q3M q3C b2B) := ⟨Q3_3.out.1.below hB, Q3_3.out.2.below hB⟩; have Q4_4 : Hd (CellAt u4 q4a q4m q4c b1F ∧ CellAt u4 q4A q4M q4C b2F) := ⟨hA.one.at_ hn1, hA.two.at_ hn2⟩; clear h9 hn1 hn2 hA hB) | (have G1 := D2; clear G1; go_at_call 15; refine (implBackRow_any kR t1R a1R n1R c1R t2R a2R n2R c2R hasR asdR b1R b2R _ R8.out.lk (R8.out.at1.below D2.out) (R8.out.at2.below D2.out) R8.out.l1 R8.out.l2 ⟨(K8.out.next D2.out).tabs⟩).mono ?_; rewrite [HMB.out]; rintro e u3 h9; obtain ⟨q3a, q3m, q3c, q3A, q3M, q3C, rfl, hn1, hn2, hA, _, hB⟩ := h9.at_; have D3 : Hd (Below v11.heap.size v11 u3) := ⟨Below.next D2.out hB⟩; have Q1_3 : Hd (CellAt u3 q1a q1m q1c b1F ∧ CellAt u3 q1A q1M q1C b2F) := ⟨Q1_2.out.1.below hB, Q1_2.out.2.below hB⟩; have Q2_3 : Hd (CellAt u3 q2a q2m q2c b1C ∧ CellAt u3 q2A q2M q2C b2C) := ⟨Q2_2.out.1.below hB, Q2_2.out.2.below hB⟩; have Q3_3 : Hd (CellAt u3 q3a q3m q3c b1B ∧ CellAt u3 q3A q3M q3C b2B) := ⟨hA.one.at_ hn1, hA.two.at_ hn2⟩; clear h9 hn1 hn2 hA hB) | (have G1 := D1; clear G1; go_at_call 14; refine (implCutRow_any kR t1R a1R n1R c1R t2R a2R n2R c2R hasR asdR b1R b2R _ R8.out.lk (R8.out.at1.below D1.out) (R8.out.at2.below D1.out) R8.out.l1 R8.out.l2 ⟨(K8.out.next D1.out).tabs⟩).mono ?_; rewrite [HMC.out]; rintro e u2 h9; obtain ⟨q2a, q2m, q2c, q2A, q2M, q2C, rfl, hn1, hn2, hA, _, hB⟩ := h9.at_; have D2 : Hd (Below v11.heap.size v11 u2) := ⟨Below.next D1.out hB⟩; have Q1_2 : Hd (CellAt u2 q1a q1m q1c b1F ∧ CellAt u2 q1A q1M q1C b2F) := ⟨Q1_1.out.1.below hB, Q1_1.out.2.below hB⟩; have Q2_2 : Hd (CellAt u2 q2a q2m q2c b1C ∧ CellAt u2 q2A q2M q2C b2C) := ⟨hA.one.at_ hn1, hA.two.at_ hn2⟩; clear h9 hn1 hn2 hA hB) | (go_at_call 13; refine (implFillRow_any kR t1R a1R n1R c1R t2R a2R n2R c2R hasR asdR b1R b2R _ R8.out.lk (R8.out.at1.below D0.out) (R8.out.at2.below D0.out) R8.out.l1 R8.out.l2 ⟨(K8.out.next D0.out).tabs⟩).mono ?_; rewrite [HMF.out]; rintro e u1 h9; obtain ⟨q1a, q1m, q1c, q1A, q1M, q1C, rfl, hn1, hn2, hA, _, hB⟩ := h9.at_; have D1 : Hd (Below v11.heap.size v11 u1) := ⟨Below.next D0.out hB⟩; have Q1_1 : Hd (CellAt u1 q1a q1m q1c b1F ∧ CellAt u1 q1A q1M q1C b2F) := ⟨hA.one.at_ hn1, hA.two.at_ hn2⟩; clear h9 hn1 hn2 hA hB))
      clear cr0 cr1 cr2 cr3 cr4 cr5 cr6
      have K9 : Hd (CStays w a0 len0 bs (u7.alloc (.cells #[.string kR, .int .i64 t1F, .slice q1a q1m q1c, .int .i64 t2F, .slice q1A q1M q1C, .int .i64 hasF, .bool asdF, .string kR, .int .i64 t1C, .slice q2a q2m q2c, .int .i64 t2C, .slice q2A q2M q2C, .int .i64 hasC, .bool asdC, .string kR, .int .i64 t1B, .slice q3a q3m q3c, .int .i64 t2B, .slice q3A q3M q3C, .int .i64 hasB, .bool asdB, .string kR, .int .i64 t1Z, .slice q5a q5m q5c, .int .i64 t2Z, .slice q5A q5M q5C, .int .i64 hasZ, .bool asdZ, .string kR, .int .i64 t1Y, .slice q7a q7m q7c, .int .i64 t2Y, .slice q7A q7M q7C, .int .i64 hasY, .bool asdY] 29))) := ⟨(K8.out.next D7.out).next (below_lit u7 _)⟩
      have R9 : Hd (RBx pR kR t1R a1R n1R c1R b1R t2R a2R n2R c2R b2R hasR asdR (u7.alloc (.cells #[.string kR, .int .i64 t1F, .slice q1a q1m q1c, .int .i64 t2F, .slice q1A q1M q1C, .int .i64 hasF, .bool asdF, .string kR, .int .i64 t1C, .slice q2a q2m q2c, .int .i64 t2C, .slice q2A q2M q2C, .int .i64 hasC, .bool asdC, .string kR, .int .i64 t1B, .slice q3a q3m q3c, .int .i64 t2B, .slice q3A q3M q3C, .int .i64 hasB, .bool asdB, .string kR, .int .i64 t1Z, .slice q5a q5m q5c, .int .i64 t2Z, .slice q5A q5M q5C, .int .i64 hasZ, .bool asdZ, .string kR, .int .i64 t1Y, .slice q7a q7m q7c, .int .i64 t2Y, .slice q7A q7M q7C, .int .i64 hasY, .bool asdY] 29))) := ⟨(R8.out.below D7.out).below (below_lit u7 _)⟩
      have AB9 : Hd ((u7.alloc (.cells #[.string kR, .int .i64 t1F, .slice q1a q1m q1c, .int .i64 t2F, .slice q1A q1M q1C, .int .i64 hasF, .bool asdF, .string kR, .int .i64 t1C, .slice q2a q2m q2c, .int .i64 t2C, .slice q2A q2M q2C, .int .i64 hasC, .bool asdC, .string kR, .int .i64 t1B, .slice q3a q3m q3c, .int .i64 t2B, .slice q3A q3M q3C, .int .i64 hasB, .bool asdB, .string kR, .int .i64 t1Z, .slice q5a q5m q5c, .int .i64 t2Z, .slice q5A q5M q5C, .int .i64 hasZ, .bool asdZ, .string kR, .int .i64 t1Y, .slice q7a q7m q7c, .int .i64 t2Y, .slice q7A q7M q7C, .int .i64 hasY, .bool asdY] 29)).heap[u7.heap.size]? = some (.cells #[.string kR, .int .i64 t1F, .slice q1a q1m q1c, .int .i64 t2F, .slice q1A q1M q1C, .int .i64 hasF, .bool asdF, .string kR, .int .i64 t1C, .slice q2a q2m q2c, .int .i64 t2C, .slice q2A q2M q2C, .int .i64 hasC, .bool asdC, .string kR, .int .i64 t1B, .slice q3a q3m q3c, .int .i64 t2B, .slice q3A q3M q3C, .int .i64 hasB, .bool asdB, .string kR, .int .i64 t1Z, .slice q5a q5m q5c, .int .i64 t2Z, .slice q5A q5M q5C, .int .i64 hasZ, .bool asdZ, .string kR, .int .i64 t1Y, .slice q7a q7m q7c, .int .i64 t2Y, .slice q7A q7M q7C, .int .i64 hasY, .bool asdY] 29 (0, 0))) := ⟨alloc_new u7 _ rfl⟩
      have CAF9 : Hd (CellAt (u7.alloc (.cells #[.string kR, .int .i64 t1F, .slice q1a q1m q1c, .int .i64 t2F, .slice q1A q1M q1C, .int .i64 hasF, .bool asdF, .string kR, .int .i64 t1C, .slice q2a q2m q2c, .int .i64 t2C, .slice q2A q2M q2C, .int .i64 hasC, .bool asdC, .string kR, .int .i64 t1B, .slice q3a q3m q3c, .int .i64 t2B, .slice q3A q3M q3C, .int .i64 hasB, .bool asdB, .string kR, .int .i64 t1Z, .slice q5a q5m q5c, .int .i64 t2Z, .slice q5A q5M q5C, .int .i64 hasZ, .bool asdZ, .string kR, .int .i64 t1Y, .slice q7a q7m q7c, .int .i64 t2Y, .slice q7A q7M q7C, .int .i64 hasY, .bool asdY] 29)) q1a q1m q1c b1F ∧ CellAt (u7.alloc (.cells #[.string kR, .int .i64 t1F, .slice q1a q1m q1c, .int .i64 t2F, .slice q1A q1M q1C, .int .i64 hasF, .bool asdF, .string kR, .int .i64 t1C, .slice q2a q2m q2c, .int .i64 t2C, .slice q2A q2M q2C, .int .i64 hasC, .bool asdC, .string kR, .int .i64 t1B, .slice q3a q3m q3c, .int .i64 t2B, .slice q3A q3M q3C, .int .i64 hasB, .bool asdB, .string kR, .int .i64 t1Z, .slice q5a q5m q5c, .int .i64 t2Z, .slice q5A q5M q5C, .int .i64 hasZ, .bool asdZ, .string kR, .int .i64 t1Y, .slice q7a q7m q7c, .int .i64 t2Y, .slice q7A q7M q7C, .int .i64 hasY, .bool asdY] 29)) q1A q1M q1C b2F) := ⟨Q1_7.out.1.below (below_lit u7 _), Q1_7.out.2.below (below_lit u7 _)⟩
      have HLF : Hd (q1m ≤ 1048576 ∧ q1M ≤ 1048576) := ⟨by have := Q1_7.out.1.size; have := HMa.out.1.s1; simp only at this; omega, by have := Q1_7.out.2.size; have := HMa.out.1.s2; simp only at this; omega⟩
      have CAC9 : Hd (CellAt (u7.alloc (.cells #[.string kR, .int .i64 t1F, .slice q1a q1m q1c, .int .i64 t2F, .slice q1A q1M q1C, .int .i64 hasF, .bool asdF, .string kR, .int .i64 t1C, .slice q2a q2m q2c, .int .i64 t2C, .slice q2A q2M q2C, .int .i64 hasC, .bool asdC, .string kR, .int .i64 t1B, .slice q3a q3m q3c, .int .i64 t2B, .slice q3A q3M q3C, .int .i64 hasB, .bool asdB, .string kR, .int .i64 t1Z, .slice q5a q5m q5c, .int .i64 t2Z, .slice q5A q5M q5C, .int .i64 hasZ, .bool asdZ, .string kR, .int .i64 t1Y, .slice q7a q7m q7c, .int .i64 t2Y, .slice q7A q7M q7C, .int .i64 hasY, .bool asdY] 29)) q2a q2m q2c b1C ∧ CellAt (u7.alloc (.cells #[.string kR, .int .i64 t1F, .slice q1a q1m q1c, .int .i64 t2F, .slice q1A q1M q1C, .int .i64 hasF, .bool asdF, .string kR, .int .i64 t1C, .slice q2a q2m q2c, .int .i64 t2C, .slice q2A q2M q2C, .int .i64 hasC, .bool asdC, .string kR, .int .i64 t1B, .slice q3a q3m q3c, .int .i64 t2B, .slice q3A q3M q3C, .int .i64 hasB, .bool asdB, .string kR, .int .i64 t1Z, .slice q5a q5m q5c, .int .i64 t2Z, .slice q5A q5M q5C, .int .i64 hasZ, .bool asdZ, .string kR, .int .i64 t1Y, .slice q7a q7m q7c, .int .i64 t2Y, .slice q7A q7M q7C, .int .i64 hasY, .bool asdY] 29)) q2A q2M q2C b2C) := ⟨Q2_7.out.1.below (below_lit u7 _), Q2_7.out.2.below (below_lit u7 _)⟩
      have HLC : Hd (q2m ≤ 1048576 ∧ q2M ≤ 1048576) := ⟨by have := Q2_7.out.1.size; have := HMa.out.2.1.s1; simp only at this; omega, by have := Q2_7.out.2.size; have := HMa.out.2.1.s2; simp only at this; omega⟩
      have CAB9 : Hd (CellAt (u7.alloc (.cells #[.string kR, .int .i64 t1F, .slice q1a q1m q1c, .int .i64 t2F, .slice q1A q1M q1C, .int .i64 hasF, .bool asdF, .string kR, .int .i64 t1C, .slice q2a q2m q2c, .int .i64 t2C, .slice q2A q2M q2C, .int .i64 hasC, .bool asdC, .string kR, .int .i64 t1B, .slice q3a q3m q3c, .int .i64 t2B, .slice q3A q3M q3C, .int .i64 hasB, .bool asdB, .string kR, .int .i64 t1Z, .slice q5a q5m q5c, .int .i64 t2Z, .slice q5A q5M q5C, .int .i64 hasZ, .bool asdZ, .string kR, .int .i64 t1Y, .slice q7a q7m q7c, .int .i64 t2Y, .slice q7A q7M q7C, .int .i64 hasY, .bool asdY] 29)) q3a q3m q3c b1B ∧ CellAt (u7.alloc (.cells #[.string kR, .int .i64 t1F, .slice q1a q1m q1c, .int .i64 t2F, .slice q1A q1M q1C, .int .i64 hasF, .bool asdF, .string kR, .int .i64 t1C, .slice q2a q2m q2c, .int .i64 t2C, .slice q2A q2M q2C, .int .i64 hasC, .bool asdC, .string kR, .int .i64 t1B, .slice q3a q3m q3c, .int .i64 t2B, .slice q3A q3M q3C, .int .i64 hasB, .bool asdB, .string kR, .int .i64 t1Z, .slice q5a q5m q5c, .int .i64 t2Z, .slice q5A q5M q5C, .int .i64 hasZ, .bool asdZ, .string kR, .int .i64 t1Y, .slice q7a q7m q7c, .int .i64 t2Y, .slice q7A q7M q7C, .int .i64 hasY, .bool asdY] 29)) q3A q3M q3C b2B) := ⟨Q3_7.out.1.below (below_lit u7 _), Q3_7.out.2.below (below_lit u7 _)⟩
      have HLB : Hd (q3m ≤ 1048576 ∧ q3M ≤ 1048576) := ⟨by have := Q3_7.out.1.size; have := HMa.out.2.2.1.s1; simp only at this; omega, by have := Q3_7.out.2.size; have := HMa.out.2.2.1.s2; simp only at this; omega⟩
      have CAZ9 : Hd (CellAt (u7.alloc (.cells #[.string kR, .int .i64 t1F, .slice q1a q1m q1c, .int .i64 t2F, .slice q1A q1M q1C, .int .i64 hasF, .bool asdF, .string kR, .int .i64 t1C, .slice q2a q2m q2c, .int .i64 t2C, .slice q2A q2M q2C, .int .i64 hasC, .bool asdC, .string kR, .int .i64 t1B, .slice q3a q3m q3c, .int .i64 t2B, .slice q3A q3M q3C, .int .i64 hasB, .bool asdB, .string kR, .int .i64 t1Z, .slice q5a q5m q5c, .int .i64 t2Z, .slice q5A q5M q5C, .int .i64 hasZ, .bool asdZ, .string kR, .int .i64 t1Y, .slice q7a q7m q7c, .int .i64 t2Y, .slice q7A q7M q7C, .int .i64 hasY, .bool asdY] 29)) q5a q5m q5c b1Z ∧ CellAt (u7.alloc (.cells #[.string kR, .int .i64 t1F, .slice q1a q1m q1c, .int .i64 t2F, .slice q1A q1M q1C, .int .i64 hasF, .bool asdF, .string kR, .int .i64 t1C, .slice q2a q2m q2c, .int .i64 t2C, .slice q2A q2M q2C, .int .i64 hasC, .bool asdC, .string kR, .int .i64 t1B, .slice q3a q3m q3c, .int .i64 t2B, .slice q3A q3M q3C, .int .i64 hasB, .bool asdB, .string kR, .int .i64 t1Z, .slice q5a q5m q5c, .int .i64 t2Z, .slice q5A q5M q5C, .int .i64 hasZ, .bool asdZ, .string kR, .int .i64 t1Y, .slice q7a q7m q7c, .int .i64 t2Y, .slice q7A q7M q7C, .int .i64 hasY, .bool asdY] 29)) q5A q5M q5C b2Z) := ⟨Q5_7.out.1.below (below_lit u7 _), Q5_7.out.2.below (below_lit u7 _)⟩
      have HLZ : Hd (q5m ≤ 1048576 ∧ q5M ≤ 1048576) := ⟨by have := Q5_7.out.1.size; have := HMa.out.2.2.2.1.s1; simp only at this; omega, by have := Q5_7.out.2.size; have := HMa.out.2.2.2.1.s2; simp only at this; omega⟩
      have CAY9 : Hd (CellAt (u7.alloc (.cells #[.string kR, .int .i64 t1F, .slice q1a q1m q1c, .int .i64 t2F, .slice q1A q1M q1C, .int .i64 hasF, .bool asdF, .string kR, .int .i64 t1C, .slice q2a q2m q2c, .int .i64 t2C, .slice q2A q2M q2C, .int .i64 hasC, .bool asdC, .string kR, .int .i64 t1B, .slice q3a q3m q3c, .int .i64 t2B, .slice q3A q3M q3C, .int .i64 hasB, .bool asdB, .string kR, .int .i64 t1Z, .slice q5a q5m q5c, .int .i64 t2Z, .slice q5A q5M q5C, .int .i64 hasZ, .bool asdZ, .string kR, .int .i64 t1Y, .slice q7a q7m q7c, .int .i64 t2Y, .slice q7A q7M q7C, .int .i64 hasY, .bool asdY] 29)) q7a q7m q7c b1Y ∧ CellAt (u7.alloc (.cells #[.string kR, .int .i64 t1F, .slice q1a q1m q1c, .int .i64 t2F, .slice q1A q1M q1C, .int .i64 hasF, .bool asdF, .string kR, .int .i64 t1C, .slice q2a q2m q2c, .int .i64 t2C, .slice q2A q2M q2C, .int .i64 hasC, .bool asdC, .string kR, .int .i64 t1B, .slice q3a q3m q3c, .int .i64 t2B, .slice q3A q3M q3C, .int .i64 hasB, .bool asdB, .string kR, .int .i64 t1Z, .slice q5a q5m q5c, .int .i64 t2Z, .slice q5A q5M q5C, .int .i64 hasZ, .bool asdZ, .string kR, .int .i64 t1Y, .slice q7a q7m q7c, .int .i64 t2Y, .slice q7A q7M q7C, .int .i64 hasY, .bool asdY] 29)) q7A q7M q7C b2Y) := ⟨Q7_7.out.1.below (below_lit u7 _), Q7_7.out.2.below (below_lit u7 _)⟩
      have HLY : Hd (q7m ≤ 1048576 ∧ q7M ≤ 1048576) := ⟨by have := Q7_7.out.1.size; have := HMa.out.2.2.2.2.s1; simp only at this; omega, by have := Q7_7.out.2.size; have := HMa.out.2.2.2.2.s2; simp only at this; omega⟩
      have HKR : Hd (kR.size ≤ 1048576) := ⟨R8.out.lk⟩
      clear KK K8 R8 D0 D1 D2 D3 D4 D5 D6 D7 Q1_1 Q1_2 Q1_3 Q1_4 Q1_5 Q1_6 Q1_7 Q2_2 Q2_3 Q2_4 Q2_5 Q2_6 Q2_7 Q3_3 Q3_4 Q3_5 Q3_6 Q3_7 Q4_4 Q4_5 Q4_6 Q4_7 Q5_5 Q5_6 Q5_7 Q6_6 Q6_7 Q7_7
      generalize hL : u7.heap.size = L at *
      clear hL
      have PK : ∃ U7, U7 = (u7.alloc (.cells #[.string kR, .int .i64 t1F, .slice q1a q1m q1c, .int .i64 t2F, .slice q1A q1M q1C, .int .i64 hasF, .bool asdF, .string kR, .int .i64 t1C, .slice q2a q2m q2c, .int .i64 t2C, .slice q2A q2M q2C, .int .i64 hasC, .bool asdC, .string kR, .int .i64 t1B, .slice q3a q3m q3c, .int .i64 t2B, .slice q3A q3M q3C, .int .i64 hasB, .bool asdB, .string kR, .int .i64 t1Z, .slice q5a q5m q5c, .int .i64 t2Z, .slice q5A q5M q5C, .int .i64 hasZ, .bool asdZ, .string kR, .int .i64 t1Y, .slice q7a q7m q7c, .int .i64 t2Y, .slice q7A q7M q7C, .int .i64 hasY, .bool asdY] 29)) ∧ (Hd (CStays w a0 len0 bs U7)) ∧ (Hd (RBx pR kR t1R a1R n1R c1R b1R t2R a2R n2R c2R b2R hasR asdR U7)) ∧ (Hd (U7.heap[L]? = some (.cells #[.string kR, .int .i64 t1F, .slice q1a q1m q1c, .int .i64 t2F, .slice q1A q1M q1C, .int .i64 hasF, .bool asdF, .string kR, .int .i64 t1C, .slice q2a q2m q2c, .int .i64 t2C, .slice q2A q2M q2C, .int .i64 hasC, .bool asdC, .string kR, .int .i64 t1B, .slice q3a q3m q3c, .int .i64 t2B, .slice q3A q3M q3C, .int .i64 hasB, .bool asdB, .string kR, .int .i64 t1Z, .slice q5a q5m q5c, .int .i64 t2Z, .slice q5A q5M q5C, .int .i64 hasZ, .bool asdZ, .string kR, .int .i64 t1Y, .slice q7a q7m q7c, .int .i64 t2Y, .slice q7A q7M q7C, .int .i64 hasY, .bool asdY] 29 (0, 0)))) ∧ (Hd (CellAt U7 q1a q1m q1c b1F ∧ CellAt U7 q1A q1M q1C b2F)) ∧ (Hd (CellAt U7 q2a q2m q2c b1C ∧ CellAt U7 q2A q2M q2C b2C)) ∧ (Hd (CellAt U7 q3a q3m q3c b1B ∧ CellAt U7 q3A q3M q3C b2B)) ∧ (Hd (CellAt U7 q5a q5m q5c b1Z ∧ CellAt U7 q5A q5M q5C b2Z)) ∧ (Hd (CellAt U7 q7a q7m q7c b1Y ∧ CellAt U7 q7A q7M q7C b2Y)) := ⟨_, rfl, K9, R9, AB9, CAF9, CAC9, CAB9, CAZ9, CAY9⟩
      clear K9 R9 AB9 CAF9 CAC9 CAB9 CAZ9 CAY9
      obtain ⟨U7, hU, K9, R9, AB9, CAF9, CAC9, CAB9, CAZ9, CAY9⟩ := PK
      rewrite [← hU]
      clear hU
      have sf : ((⟨S⟩ : ByteArray).toList != (⟨S⟩ : ByteArray).toList) = false := by simp
      have tkf : (tk != tk) = false := by simp
      have krf : (kR.toList != kR.toList) = false := by simp
      go_wp2_with fail
      refine wp_loop_rounds 6 ?_
      rewrite [rounds_succ]
      have z0 : U7.cell? ⟨L, 0, none⟩ = some (.string kR) := arr_cell AB9.out (Below.refl _ U7) 0 _ rfl
      have z1 : U7.cell? ⟨L, 1, none⟩ = some (.int .i64 t1F) := arr_cell AB9.out (Below.refl _ U7) 1 _ rfl
      have z2 : U7.cell? ⟨L, 2, none⟩ = some (.slice q1a q1m q1c) := arr_cell AB9.out (Below.refl _ U7) 2 _ rfl
      have z3 : U7.cell? ⟨L, 3, none⟩ = some (.int .i64 t2F) := arr_cell AB9.out (Below.refl _ U7) 3 _ rfl
      have z4 : U7.cell? ⟨L, 4, none⟩ = some (.slice q1A q1M q1C) := arr_cell AB9.out (Below.refl _ U7) 4 _ rfl
      have z5 : U7.cell? ⟨L, 5, none⟩ = some (.int .i64 hasF) := arr_cell AB9.out (Below.refl _ U7) 5 _ rfl
      have z6 : U7.cell? ⟨L, 6, none⟩ = some (.bool asdF) := arr_cell AB9.out (Below.refl _ U7) 6 _ rfl
      go_wp2_with fail
      clear z0 z1 z2 z3 z4 z5 z6
      refine (implRowText_any kR t1F q1a q1m q1c t2F q1A q1M q1C hasF asdF b1F b2F _ CAF9.out.1 CAF9.out.2 HLF.out.1 HLF.out.2 ⟨K9.out.tabs⟩).mono ?_
      rintro e v12 ⟨rfl, hB⟩
      rewrite [HSF.out, HTF.out]
      have K10 : Hd (CStays w a0 len0 bs v12) := ⟨K9.out.next hB⟩
      have R10 : Hd (RBx pR kR t1R a1R n1R c1R b1R t2R a2R n2R c2R b2R hasR asdR v12) := ⟨R9.out.below hB⟩
      have CAF10 : Hd (CellAt v12 q1a q1m q1c b1F ∧ CellAt v12 q1A q1M q1C b2F) := ⟨⟨CAF9.out.1.below hB, CAF9.out.2.below hB⟩⟩
      have CAC10 : Hd (CellAt v12 q2a q2m q2c b1C ∧ CellAt v12 q2A q2M q2C b2C) := ⟨⟨CAC9.out.1.below hB, CAC9.out.2.below hB⟩⟩
      have CAB10 : Hd (CellAt v12 q3a q3m q3c b1B ∧ CellAt v12 q3A q3M q3C b2B) := ⟨⟨CAB9.out.1.below hB, CAB9.out.2.below hB⟩⟩
      have CAZ10 : Hd (CellAt v12 q5a q5m q5c b1Z ∧ CellAt v12 q5A q5M q5C b2Z) := ⟨⟨CAZ9.out.1.below hB, CAZ9.out.2.below hB⟩⟩
      have CAY10 : Hd (CellAt v12 q7a q7m q7c b1Y ∧ CellAt v12 q7A q7M q7C b2Y) := ⟨⟨CAY9.out.1.below hB, CAY9.out.2.below hB⟩⟩
      have AB10 : Hd (v12.heap[L]? = some (.cells #[.string kR, .int .i64 t1F, .slice q1a q1m q1c, .int .i64 t2F, .slice q1A q1M q1C, .int .i64 hasF, .bool asdF, .string kR, .int .i64 t1C, .slice q2a q2m q2c, .int .i64 t2C, .slice q2A q2M q2C, .int .i64 hasC, .bool asdC, .string kR, .int .i64 t1B, .slice q3a q3m q3c, .int .i64 t2B, .slice q3A q3M q3C, .int .i64 hasB, .bool asdB, .string kR, .int .i64 t1Z, .slice q5a q5m q5c, .int .i64 t2Z, .slice q5A q5M q5C, .int .i64 hasZ, .bool asdZ, .string kR, .int .i64 t1Y, .slice q7a q7m q7c, .int .i64 t2Y, .slice q7A q7M q7C, .int .i64 hasY, .bool asdY] 29 (0, 0))) := ⟨(hB.block _ (lt_of_block AB9.out)).trans AB9.out⟩
      clear K9 R9 CAF9 CAC9 CAB9 CAZ9 CAY9 AB9
      clear hB
      have z0 : v12.cell? ⟨L, 0, none⟩ = some (.string kR) := arr_cell AB10.out (Below.refl _ v12) 0 _ rfl
      have z1 : v12.cell? ⟨L, 1, none⟩ = some (.int .i64 t1F) := arr_cell AB10.out (Below.refl _ v12) 1 _ rfl
      have z2 : v12.cell? ⟨L, 2, none⟩ = some (.slice q1a q1m q1c) := arr_cell AB10.out (Below.refl _ v12) 2 _ rfl
      have z3 : v12.cell? ⟨L, 3, none⟩ = some (.int .i64 t2F) := arr_cell AB10.out (Below.refl _ v12) 3 _ rfl
      have z4 : v12.cell? ⟨L, 4, none⟩ = some (.slice q1A q1M q1C) := arr_cell AB10.out (Below.refl _ v12) 4 _ rfl
      have z5 : v12.cell? ⟨L, 5, none⟩ = some (.int .i64 hasF) := arr_cell AB10.out (Below.refl _ v12) 5 _ rfl
      have z6 : v12.cell? ⟨L, 6, none⟩ = some (.bool asdF) := arr_cell AB10.out (Below.refl _ v12) 6 _ rfl
      obtain ⟨cr0, _, _, _, _, _, _⟩ := cells7 _ pR _ _ _ _ _ _ _ _ R10.out.box
      go_wp2_with fail
      have KK : Hd (∀ w', Below v12.heap.size v12 w' → ((w'.cell? ⟨L, 0, none⟩ = some (.string kR) ∧ w'.cell? ⟨L, 1, none⟩ = some (.int .i64 t1F) ∧ w'.cell? ⟨L, 2, none⟩ = some (.slice q1a q1m q1c) ∧ w'.cell? ⟨L, 3, none⟩ = some (.int .i64 t2F) ∧ w'.cell? ⟨L, 4, none⟩ = some (.slice q1A q1M q1C) ∧ w'.cell? ⟨L, 5, none⟩ = some (.int .i64 hasF) ∧ w'.cell? ⟨L, 6, none⟩ = some (.bool asdF)) ∧ w'.cell? ⟨pR, 0, none⟩ = some (.string kR))) := ⟨fun w' hb => ⟨⟨arr_cell AB10.out hb 0 _ rfl, arr_cell AB10.out hb 1 _ rfl, arr_cell AB10.out hb 2 _ rfl, arr_cell AB10.out hb 3 _ rfl, arr_cell AB10.out hb 4 _ rfl, arr_cell AB10.out hb 5 _ rfl, arr_cell AB10.out hb 6 _ rfl⟩, (R10.out.cells hb).1⟩⟩
      have D0 : Hd (Below v12.heap.size v12 v12.drew) := ⟨(Below.refl _ v12).drew⟩
      go_region_held (fun w' => (w'.cell? ⟨L, 0, none⟩ = some (.string kR) ∧ w'.cell? ⟨L, 1, none⟩ = some (.int .i64 t1F) ∧ w'.cell? ⟨L, 2, none⟩ = some (.slice q1a q1m q1c) ∧ w'.cell? ⟨L, 3, none⟩ = some (.int .i64 t2F) ∧ w'.cell? ⟨L, 4, none⟩ = some (.slice q1A q1M q1C) ∧ w'.cell? ⟨L, 5, none⟩ = some (.int .i64 hasF) ∧ w'.cell? ⟨L, 6, none⟩ = some (.bool asdF)) ∧ w'.cell? ⟨pR, 0, none⟩ = some (.string kR)) (first | (with_reducible exact KK.out _ D1.out) | (with_reducible exact KK.out _ D0.out)) (first | (go_at_call 11; refine (implRowOk_any kR t1F q1a q1m q1c t2F q1A q1M q1C hasF asdF b1F b2F _ HKR.out (CAF10.out.1.below D0.out) (CAF10.out.2.below D0.out) HLF.out.1 HLF.out.2 ⟨(K10.out.next D0.out).tabs⟩).mono ?_; rintro e u1 ⟨rfl, hB⟩; rewrite [HOF.out]; have D1 : Hd (Below v12.heap.size v12 u1) := ⟨Below.next D0.out hB⟩; clear hB))
      clear z0 z1 z2 z3 z4 z5 z6
      clear cr0
      have K11 : Hd (CStays w a0 len0 bs u1) := ⟨K10.out.next D1.out⟩
      have R11 : Hd (RBx pR kR t1R a1R n1R c1R b1R t2R a2R n2R c2R b2R hasR asdR u1) := ⟨R10.out.below D1.out⟩
      have CAF11 : Hd (CellAt u1 q1a q1m q1c b1F ∧ CellAt u1 q1A q1M q1C b2F) := ⟨⟨CAF10.out.1.below D1.out, CAF10.out.2.below D1.out⟩⟩
      have CAC11 : Hd (CellAt u1 q2a q2m q2c b1C ∧ CellAt u1 q2A q2M q2C b2C) := ⟨⟨CAC10.out.1.below D1.out, CAC10.out.2.below D1.out⟩⟩
      have CAB11 : Hd (CellAt u1 q3a q3m q3c b1B ∧ CellAt u1 q3A q3M q3C b2B) := ⟨⟨CAB10.out.1.below D1.out, CAB10.out.2.below D1.out⟩⟩
      have CAZ11 : Hd (CellAt u1 q5a q5m q5c b1Z ∧ CellAt u1 q5A q5M q5C b2Z) := ⟨⟨CAZ10.out.1.below D1.out, CAZ10.out.2.below D1.out⟩⟩
      have CAY11 : Hd (CellAt u1 q7a q7m q7c b1Y ∧ CellAt u1 q7A q7M q7C b2Y) := ⟨⟨CAY10.out.1.below D1.out, CAY10.out.2.below D1.out⟩⟩
      have AB11 : Hd (u1.heap[L]? = some (.cells #[.string kR, .int .i64 t1F, .slice q1a q1m q1c, .int .i64 t2F, .slice q1A q1M q1C, .int .i64 hasF, .bool asdF, .string kR, .int .i64 t1C, .slice q2a q2m q2c, .int .i64 t2C, .slice q2A q2M q2C, .int .i64 hasC, .bool asdC, .string kR, .int .i64 t1B, .slice q3a q3m q3c, .int .i64 t2B, .slice q3A q3M q3C, .int .i64 hasB, .bool asdB, .string kR, .int .i64 t1Z, .slice q5a q5m q5c, .int .i64 t2Z, .slice q5A q5M q5C, .int .i64 hasZ, .bool asdZ, .string kR, .int .i64 t1Y, .slice q7a q7m q7c, .int .i64 t2Y, .slice q7A q7M q7C, .int .i64 hasY, .bool asdY] 29 (0, 0))) := ⟨(D1.out.block _ (lt_of_block AB10.out)).trans AB10.out⟩
      clear K10 R10 CAF10 CAC10 CAB10 CAZ10 CAY10 AB10
      clear KK D0 D1
      generalize hu : u1 = v13 at *
      clear hu
      go_wp2_with fail
      rewrite [rounds_succ]
      have z0 : v13.cell? ⟨L, 7, none⟩ = some (.string kR) := arr_cell AB11.out (Below.refl _ v13) 7 _ rfl
      have z1 : v13.cell? ⟨L, 8, none⟩ = some (.int .i64 t1C) := arr_cell AB11.out (Below.refl _ v13) 8 _ rfl
      have z2 : v13.cell? ⟨L, 9, none⟩ = some (.slice q2a q2m q2c) := arr_cell AB11.out (Below.refl _ v13) 9 _ rfl
      have z3 : v13.cell? ⟨L, 10, none⟩ = some (.int .i64 t2C) := arr_cell AB11.out (Below.refl _ v13) 10 _ rfl
      have z4 : v13.cell? ⟨L, 11, none⟩ = some (.slice q2A q2M q2C) := arr_cell AB11.out (Below.refl _ v13) 11 _ rfl
      have z5 : v13.cell? ⟨L, 12, none⟩ = some (.int .i64 hasC) := arr_cell AB11.out (Below.refl _ v13) 12 _ rfl
      have z6 : v13.cell? ⟨L, 13, none⟩ = some (.bool asdC) := arr_cell AB11.out (Below.refl _ v13) 13 _ rfl
      go_wp2_with fail
      clear z0 z1 z2 z3 z4 z5 z6
      refine (implRowText_any kR t1C q2a q2m q2c t2C q2A q2M q2C hasC asdC b1C b2C _ CAC11.out.1 CAC11.out.2 HLC.out.1 HLC.out.2 ⟨K11.out.tabs⟩).mono ?_
      rintro e v14 ⟨rfl, hB⟩
      rewrite [HSC.out, HTC.out]
      have K12 : Hd (CStays w a0 len0 bs v14) := ⟨K11.out.next hB⟩
      have R12 : Hd (RBx pR kR t1R a1R n1R c1R b1R t2R a2R n2R c2R b2R hasR asdR v14) := ⟨R11.out.below hB⟩
      have CAF12 : Hd (CellAt v14 q1a q1m q1c b1F ∧ CellAt v14 q1A q1M q1C b2F) := ⟨⟨CAF11.out.1.below hB, CAF11.out.2.below hB⟩⟩
      have CAC12 : Hd (CellAt v14 q2a q2m q2c b1C ∧ CellAt v14 q2A q2M q2C b2C) := ⟨⟨CAC11.out.1.below hB, CAC11.out.2.below hB⟩⟩
      have CAB12 : Hd (CellAt v14 q3a q3m q3c b1B ∧ CellAt v14 q3A q3M q3C b2B) := ⟨⟨CAB11.out.1.below hB, CAB11.out.2.below hB⟩⟩
      have CAZ12 : Hd (CellAt v14 q5a q5m q5c b1Z ∧ CellAt v14 q5A q5M q5C b2Z) := ⟨⟨CAZ11.out.1.below hB, CAZ11.out.2.below hB⟩⟩
      have CAY12 : Hd (CellAt v14 q7a q7m q7c b1Y ∧ CellAt v14 q7A q7M q7C b2Y) := ⟨⟨CAY11.out.1.below hB, CAY11.out.2.below hB⟩⟩
      have AB12 : Hd (v14.heap[L]? = some (.cells #[.string kR, .int .i64 t1F, .slice q1a q1m q1c, .int .i64 t2F, .slice q1A q1M q1C, .int .i64 hasF, .bool asdF, .string kR, .int .i64 t1C, .slice q2a q2m q2c, .int .i64 t2C, .slice q2A q2M q2C, .int .i64 hasC, .bool asdC, .string kR, .int .i64 t1B, .slice q3a q3m q3c, .int .i64 t2B, .slice q3A q3M q3C, .int .i64 hasB, .bool asdB, .string kR, .int .i64 t1Z, .slice q5a q5m q5c, .int .i64 t2Z, .slice q5A q5M q5C, .int .i64 hasZ, .bool asdZ, .string kR, .int .i64 t1Y, .slice q7a q7m q7c, .int .i64 t2Y, .slice q7A q7M q7C, .int .i64 hasY, .bool asdY] 29 (0, 0))) := ⟨(hB.block _ (lt_of_block AB11.out)).trans AB11.out⟩
      clear K11 R11 CAF11 CAC11 CAB11 CAZ11 CAY11 AB11
      clear hB
      have z0 : v14.cell? ⟨L, 7, none⟩ = some (.string kR) := arr_cell AB12.out (Below.refl _ v14) 7 _ rfl
      have z1 : v14.cell? ⟨L, 8, none⟩ = some (.int .i64 t1C) := arr_cell AB12.out (Below.refl _ v14) 8 _ rfl
      have z2 : v14.cell? ⟨L, 9, none⟩ = some (.slice q2a q2m q2c) := arr_cell AB12.out (Below.refl _ v14) 9 _ rfl
      have z3 : v14.cell? ⟨L, 10, none⟩ = some (.int .i64 t2C) := arr_cell AB12.out (Below.refl _ v14) 10 _ rfl
      have z4 : v14.cell? ⟨L, 11, none⟩ = some (.slice q2A q2M q2C) := arr_cell AB12.out (Below.refl _ v14) 11 _ rfl
      have z5 : v14.cell? ⟨L, 12, none⟩ = some (.int .i64 hasC) := arr_cell AB12.out (Below.refl _ v14) 12 _ rfl
      have z6 : v14.cell? ⟨L, 13, none⟩ = some (.bool asdC) := arr_cell AB12.out (Below.refl _ v14) 13 _ rfl
      obtain ⟨cr0, _, _, _, _, _, _⟩ := cells7 _ pR _ _ _ _ _ _ _ _ R12.out.box
      go_wp2_with fail
      have KK : Hd (∀ w', Below v14.heap.size v14 w' → ((w'.cell? ⟨L, 7, none⟩ = some (.string kR) ∧ w'.cell? ⟨L, 8, none⟩ = some (.int .i64 t1C) ∧ w'.cell? ⟨L, 9, none⟩ = some (.slice q2a q2m q2c) ∧ w'.cell? ⟨L, 10, none⟩ = some (.int .i64 t2C) ∧ w'.cell? ⟨L, 11, none⟩ = some (.slice q2A q2M q2C) ∧ w'.cell? ⟨L, 12, none⟩ = some (.int .i64 hasC) ∧ w'.cell? ⟨L, 13, none⟩ = some (.bool asdC)) ∧ w'.cell? ⟨pR, 0, none⟩ = some (.string kR))) := ⟨fun w' hb => ⟨⟨arr_cell AB12.out hb 7 _ rfl, arr_cell AB12.out hb 8 _ rfl, arr_cell AB12.out hb 9 _ rfl, arr_cell AB12.out hb 10 _ rfl, arr_cell AB12.out hb 11 _ rfl, arr_cell AB12.out hb 12 _ rfl, arr_cell AB12.out hb 13 _ rfl⟩, (R12.out.cells hb).1⟩⟩
      have D0 : Hd (Below v14.heap.size v14 v14.drew) := ⟨(Below.refl _ v14).drew⟩
      go_region_held (fun w' => (w'.cell? ⟨L, 7, none⟩ = some (.string kR) ∧ w'.cell? ⟨L, 8, none⟩ = some (.int .i64 t1C) ∧ w'.cell? ⟨L, 9, none⟩ = some (.slice q2a q2m q2c) ∧ w'.cell? ⟨L, 10, none⟩ = some (.int .i64 t2C) ∧ w'.cell? ⟨L, 11, none⟩ = some (.slice q2A q2M q2C) ∧ w'.cell? ⟨L, 12, none⟩ = some (.int .i64 hasC) ∧ w'.cell? ⟨L, 13, none⟩ = some (.bool asdC)) ∧ w'.cell? ⟨pR, 0, none⟩ = some (.string kR)) (first | (with_reducible exact KK.out _ D1.out) | (with_reducible exact KK.out _ D0.out)) (first | (go_at_call 11; refine (implRowOk_any kR t1C q2a q2m q2c t2C q2A q2M q2C hasC asdC b1C b2C _ HKR.out (CAC12.out.1.below D0.out) (CAC12.out.2.below D0.out) HLC.out.1 HLC.out.2 ⟨(K12.out.next D0.out).tabs⟩).mono ?_; rintro e u1 ⟨rfl, hB⟩; rewrite [HOC.out]; have D1 : Hd (Below v14.heap.size v14 u1) := ⟨Below.next D0.out hB⟩; clear hB))
      clear z0 z1 z2 z3 z4 z5 z6
      clear cr0
      have K13 : Hd (CStays w a0 len0 bs u1) := ⟨K12.out.next D1.out⟩
      have R13 : Hd (RBx pR kR t1R a1R n1R c1R b1R t2R a2R n2R c2R b2R hasR asdR u1) := ⟨R12.out.below D1.out⟩
      have CAF13 : Hd (CellAt u1 q1a q1m q1c b1F ∧ CellAt u1 q1A q1M q1C b2F) := ⟨⟨CAF12.out.1.below D1.out, CAF12.out.2.below D1.out⟩⟩
      have CAC13 : Hd (CellAt u1 q2a q2m q2c b1C ∧ CellAt u1 q2A q2M q2C b2C) := ⟨⟨CAC12.out.1.below D1.out, CAC12.out.2.below D1.out⟩⟩
      have CAB13 : Hd (CellAt u1 q3a q3m q3c b1B ∧ CellAt u1 q3A q3M q3C b2B) := ⟨⟨CAB12.out.1.below D1.out, CAB12.out.2.below D1.out⟩⟩
      have CAZ13 : Hd (CellAt u1 q5a q5m q5c b1Z ∧ CellAt u1 q5A q5M q5C b2Z) := ⟨⟨CAZ12.out.1.below D1.out, CAZ12.out.2.below D1.out⟩⟩
      have CAY13 : Hd (CellAt u1 q7a q7m q7c b1Y ∧ CellAt u1 q7A q7M q7C b2Y) := ⟨⟨CAY12.out.1.below D1.out, CAY12.out.2.below D1.out⟩⟩
      have AB13 : Hd (u1.heap[L]? = some (.cells #[.string kR, .int .i64 t1F, .slice q1a q1m q1c, .int .i64 t2F, .slice q1A q1M q1C, .int .i64 hasF, .bool asdF, .string kR, .int .i64 t1C, .slice q2a q2m q2c, .int .i64 t2C, .slice q2A q2M q2C, .int .i64 hasC, .bool asdC, .string kR, .int .i64 t1B, .slice q3a q3m q3c, .int .i64 t2B, .slice q3A q3M q3C, .int .i64 hasB, .bool asdB, .string kR, .int .i64 t1Z, .slice q5a q5m q5c, .int .i64 t2Z, .slice q5A q5M q5C, .int .i64 hasZ, .bool asdZ, .string kR, .int .i64 t1Y, .slice q7a q7m q7c, .int .i64 t2Y, .slice q7A q7M q7C, .int .i64 hasY, .bool asdY] 29 (0, 0))) := ⟨(D1.out.block _ (lt_of_block AB12.out)).trans AB12.out⟩
      clear K12 R12 CAF12 CAC12 CAB12 CAZ12 CAY12 AB12
      clear KK D0 D1
      generalize hu : u1 = v15 at *
      clear hu
      go_wp2_with fail
      rewrite [rounds_succ]
      have z0 : v15.cell? ⟨L, 14, none⟩ = some (.string kR) := arr_cell AB13.out (Below.refl _ v15) 14 _ rfl
      have z1 : v15.cell? ⟨L, 15, none⟩ = some (.int .i64 t1B) := arr_cell AB13.out (Below.refl _ v15) 15 _ rfl
      have z2 : v15.cell? ⟨L, 16, none⟩ = some (.slice q3a q3m q3c) := arr_cell AB13.out (Below.refl _ v15) 16 _ rfl
      have z3 : v15.cell? ⟨L, 17, none⟩ = some (.int .i64 t2B) := arr_cell AB13.out (Below.refl _ v15) 17 _ rfl
      have z4 : v15.cell? ⟨L, 18, none⟩ = some (.slice q3A q3M q3C) := arr_cell AB13.out (Below.refl _ v15) 18 _ rfl
      have z5 : v15.cell? ⟨L, 19, none⟩ = some (.int .i64 hasB) := arr_cell AB13.out (Below.refl _ v15) 19 _ rfl
      have z6 : v15.cell? ⟨L, 20, none⟩ = some (.bool asdB) := arr_cell AB13.out (Below.refl _ v15) 20 _ rfl
      go_wp2_with fail
      clear z0 z1 z2 z3 z4 z5 z6
      refine (implRowText_any kR t1B q3a q3m q3c t2B q3A q3M q3C hasB asdB b1B b2B _ CAB13.out.1 CAB13.out.2 HLB.out.1 HLB.out.2 ⟨K13.out.tabs⟩).mono ?_
      rintro e v16 ⟨rfl, hB⟩
      rewrite [HSB.out, HTB.out]
      have K14 : Hd (CStays w a0 len0 bs v16) := ⟨K13.out.next hB⟩
      have R14 : Hd (RBx pR kR t1R a1R n1R c1R b1R t2R a2R n2R c2R b2R hasR asdR v16) := ⟨R13.out.below hB⟩
      have CAF14 : Hd (CellAt v16 q1a q1m q1c b1F ∧ CellAt v16 q1A q1M q1C b2F) := ⟨⟨CAF13.out.1.below hB, CAF13.out.2.below hB⟩⟩
      have CAC14 : Hd (CellAt v16 q2a q2m q2c b1C ∧ CellAt v16 q2A q2M q2C b2C) := ⟨⟨CAC13.out.1.below hB, CAC13.out.2.below hB⟩⟩
      have CAB14 : Hd (CellAt v16 q3a q3m q3c b1B ∧ CellAt v16 q3A q3M q3C b2B) := ⟨⟨CAB13.out.1.below hB, CAB13.out.2.below hB⟩⟩
      have CAZ14 : Hd (CellAt v16 q5a q5m q5c b1Z ∧ CellAt v16 q5A q5M q5C b2Z) := ⟨⟨CAZ13.out.1.below hB, CAZ13.out.2.below hB⟩⟩
      have CAY14 : Hd (CellAt v16 q7a q7m q7c b1Y ∧ CellAt v16 q7A q7M q7C b2Y) := ⟨⟨CAY13.out.1.below hB, CAY13.out.2.below hB⟩⟩
      have AB14 : Hd (v16.heap[L]? = some (.cells #[.string kR, .int .i64 t1F, .slice q1a q1m q1c, .int .i64 t2F, .slice q1A q1M q1C, .int .i64 hasF, .bool asdF, .string kR, .int .i64 t1C, .slice q2a q2m q2c, .int .i64 t2C, .slice q2A q2M q2C, .int .i64 hasC, .bool asdC, .string kR, .int .i64 t1B, .slice q3a q3m q3c, .int .i64 t2B, .slice q3A q3M q3C, .int .i64 hasB, .bool asdB, .string kR, .int .i64 t1Z, .slice q5a q5m q5c, .int .i64 t2Z, .slice q5A q5M q5C, .int .i64 hasZ, .bool asdZ, .string kR, .int .i64 t1Y, .slice q7a q7m q7c, .int .i64 t2Y, .slice q7A q7M q7C, .int .i64 hasY, .bool asdY] 29 (0, 0))) := ⟨(hB.block _ (lt_of_block AB13.out)).trans AB13.out⟩
      clear K13 R13 CAF13 CAC13 CAB13 CAZ13 CAY13 AB13
      clear hB
      have z0 : v16.cell? ⟨L, 14, none⟩ = some (.string kR) := arr_cell AB14.out (Below.refl _ v16) 14 _ rfl
      have z1 : v16.cell? ⟨L, 15, none⟩ = some (.int .i64 t1B) := arr_cell AB14.out (Below.refl _ v16) 15 _ rfl
      have z2 : v16.cell? ⟨L, 16, none⟩ = some (.slice q3a q3m q3c) := arr_cell AB14.out (Below.refl _ v16) 16 _ rfl
      have z3 : v16.cell? ⟨L, 17, none⟩ = some (.int .i64 t2B) := arr_cell AB14.out (Below.refl _ v16) 17 _ rfl
      have z4 : v16.cell? ⟨L, 18, none⟩ = some (.slice q3A q3M q3C) := arr_cell AB14.out (Below.refl _ v16) 18 _ rfl
      have z5 : v16.cell? ⟨L, 19, none⟩ = some (.int .i64 hasB) := arr_cell AB14.out (Below.refl _ v16) 19 _ rfl
      have z6 : v16.cell? ⟨L, 20, none⟩ = some (.bool asdB) := arr_cell AB14.out (Below.refl _ v16) 20 _ rfl
      obtain ⟨cr0, _, _, _, _, _, _⟩ := cells7 _ pR _ _ _ _ _ _ _ _ R14.out.box
      go_wp2_with fail
      have KK : Hd (∀ w', Below v16.heap.size v16 w' → ((w'.cell? ⟨L, 14, none⟩ = some (.string kR) ∧ w'.cell? ⟨L, 15, none⟩ = some (.int .i64 t1B) ∧ w'.cell? ⟨L, 16, none⟩ = some (.slice q3a q3m q3c) ∧ w'.cell? ⟨L, 17, none⟩ = some (.int .i64 t2B) ∧ w'.cell? ⟨L, 18, none⟩ = some (.slice q3A q3M q3C) ∧ w'.cell? ⟨L, 19, none⟩ = some (.int .i64 hasB) ∧ w'.cell? ⟨L, 20, none⟩ = some (.bool asdB)) ∧ w'.cell? ⟨pR, 0, none⟩ = some (.string kR))) := ⟨fun w' hb => ⟨⟨arr_cell AB14.out hb 14 _ rfl, arr_cell AB14.out hb 15 _ rfl, arr_cell AB14.out hb 16 _ rfl, arr_cell AB14.out hb 17 _ rfl, arr_cell AB14.out hb 18 _ rfl, arr_cell AB14.out hb 19 _ rfl, arr_cell AB14.out hb 20 _ rfl⟩, (R14.out.cells hb).1⟩⟩
      have D0 : Hd (Below v16.heap.size v16 v16.drew) := ⟨(Below.refl _ v16).drew⟩
      go_region_held (fun w' => (w'.cell? ⟨L, 14, none⟩ = some (.string kR) ∧ w'.cell? ⟨L, 15, none⟩ = some (.int .i64 t1B) ∧ w'.cell? ⟨L, 16, none⟩ = some (.slice q3a q3m q3c) ∧ w'.cell? ⟨L, 17, none⟩ = some (.int .i64 t2B) ∧ w'.cell? ⟨L, 18, none⟩ = some (.slice q3A q3M q3C) ∧ w'.cell? ⟨L, 19, none⟩ = some (.int .i64 hasB) ∧ w'.cell? ⟨L, 20, none⟩ = some (.bool asdB)) ∧ w'.cell? ⟨pR, 0, none⟩ = some (.string kR)) (first | (with_reducible exact KK.out _ D1.out) | (with_reducible exact KK.out _ D0.out)) (first | (go_at_call 11; refine (implRowOk_any kR t1B q3a q3m q3c t2B q3A q3M q3C hasB asdB b1B b2B _ HKR.out (CAB14.out.1.below D0.out) (CAB14.out.2.below D0.out) HLB.out.1 HLB.out.2 ⟨(K14.out.next D0.out).tabs⟩).mono ?_; rintro e u1 ⟨rfl, hB⟩; rewrite [HOB.out]; have D1 : Hd (Below v16.heap.size v16 u1) := ⟨Below.next D0.out hB⟩; clear hB))
      clear z0 z1 z2 z3 z4 z5 z6
      clear cr0
      have K15 : Hd (CStays w a0 len0 bs u1) := ⟨K14.out.next D1.out⟩
      have R15 : Hd (RBx pR kR t1R a1R n1R c1R b1R t2R a2R n2R c2R b2R hasR asdR u1) := ⟨R14.out.below D1.out⟩
      have CAF15 : Hd (CellAt u1 q1a q1m q1c b1F ∧ CellAt u1 q1A q1M q1C b2F) := ⟨⟨CAF14.out.1.below D1.out, CAF14.out.2.below D1.out⟩⟩
      have CAC15 : Hd (CellAt u1 q2a q2m q2c b1C ∧ CellAt u1 q2A q2M q2C b2C) := ⟨⟨CAC14.out.1.below D1.out, CAC14.out.2.below D1.out⟩⟩
      have CAB15 : Hd (CellAt u1 q3a q3m q3c b1B ∧ CellAt u1 q3A q3M q3C b2B) := ⟨⟨CAB14.out.1.below D1.out, CAB14.out.2.below D1.out⟩⟩
      have CAZ15 : Hd (CellAt u1 q5a q5m q5c b1Z ∧ CellAt u1 q5A q5M q5C b2Z) := ⟨⟨CAZ14.out.1.below D1.out, CAZ14.out.2.below D1.out⟩⟩
      have CAY15 : Hd (CellAt u1 q7a q7m q7c b1Y ∧ CellAt u1 q7A q7M q7C b2Y) := ⟨⟨CAY14.out.1.below D1.out, CAY14.out.2.below D1.out⟩⟩
      have AB15 : Hd (u1.heap[L]? = some (.cells #[.string kR, .int .i64 t1F, .slice q1a q1m q1c, .int .i64 t2F, .slice q1A q1M q1C, .int .i64 hasF, .bool asdF, .string kR, .int .i64 t1C, .slice q2a q2m q2c, .int .i64 t2C, .slice q2A q2M q2C, .int .i64 hasC, .bool asdC, .string kR, .int .i64 t1B, .slice q3a q3m q3c, .int .i64 t2B, .slice q3A q3M q3C, .int .i64 hasB, .bool asdB, .string kR, .int .i64 t1Z, .slice q5a q5m q5c, .int .i64 t2Z, .slice q5A q5M q5C, .int .i64 hasZ, .bool asdZ, .string kR, .int .i64 t1Y, .slice q7a q7m q7c, .int .i64 t2Y, .slice q7A q7M q7C, .int .i64 hasY, .bool asdY] 29 (0, 0))) := ⟨(D1.out.block _ (lt_of_block AB14.out)).trans AB14.out⟩
      clear K14 R14 CAF14 CAC14 CAB14 CAZ14 CAY14 AB14
      clear KK D0 D1
      generalize hu : u1 = v17 at *
      clear hu
      go_wp2_with fail
      rewrite [rounds_succ]
      have z0 : v17.cell? ⟨L, 21, none⟩ = some (.string kR) := arr_cell AB15.out (Below.refl _ v17) 21 _ rfl
      have z1 : v17.cell? ⟨L, 22, none⟩ = some (.int .i64 t1Z) := arr_cell AB15.out (Below.refl _ v17) 22 _ rfl
      have z2 : v17.cell? ⟨L, 23, none⟩ = some (.slice q5a q5m q5c) := arr_cell AB15.out (Below.refl _ v17) 23 _ rfl
      have z3 : v17.cell? ⟨L, 24, none⟩ = some (.int .i64 t2Z) := arr_cell AB15.out (Below.refl _ v17) 24 _ rfl
      have z4 : v17.cell? ⟨L, 25, none⟩ = some (.slice q5A q5M q5C) := arr_cell AB15.out (Below.refl _ v17) 25 _ rfl
      have z5 : v17.cell? ⟨L, 26, none⟩ = some (.int .i64 hasZ) := arr_cell AB15.out (Below.refl _ v17) 26 _ rfl
      have z6 : v17.cell? ⟨L, 27, none⟩ = some (.bool asdZ) := arr_cell AB15.out (Below.refl _ v17) 27 _ rfl
      go_wp2_with fail
      clear z0 z1 z2 z3 z4 z5 z6
      refine (implRowText_any kR t1Z q5a q5m q5c t2Z q5A q5M q5C hasZ asdZ b1Z b2Z _ CAZ15.out.1 CAZ15.out.2 HLZ.out.1 HLZ.out.2 ⟨K15.out.tabs⟩).mono ?_
      rintro e v18 ⟨rfl, hB⟩
      rewrite [HSZ.out, HTZ.out]
      have K16 : Hd (CStays w a0 len0 bs v18) := ⟨K15.out.next hB⟩
      have R16 : Hd (RBx pR kR t1R a1R n1R c1R b1R t2R a2R n2R c2R b2R hasR asdR v18) := ⟨R15.out.below hB⟩
      have CAF16 : Hd (CellAt v18 q1a q1m q1c b1F ∧ CellAt v18 q1A q1M q1C b2F) := ⟨⟨CAF15.out.1.below hB, CAF15.out.2.below hB⟩⟩
      have CAC16 : Hd (CellAt v18 q2a q2m q2c b1C ∧ CellAt v18 q2A q2M q2C b2C) := ⟨⟨CAC15.out.1.below hB, CAC15.out.2.below hB⟩⟩
      have CAB16 : Hd (CellAt v18 q3a q3m q3c b1B ∧ CellAt v18 q3A q3M q3C b2B) := ⟨⟨CAB15.out.1.below hB, CAB15.out.2.below hB⟩⟩
      have CAZ16 : Hd (CellAt v18 q5a q5m q5c b1Z ∧ CellAt v18 q5A q5M q5C b2Z) := ⟨⟨CAZ15.out.1.below hB, CAZ15.out.2.below hB⟩⟩
      have CAY16 : Hd (CellAt v18 q7a q7m q7c b1Y ∧ CellAt v18 q7A q7M q7C b2Y) := ⟨⟨CAY15.out.1.below hB, CAY15.out.2.below hB⟩⟩
      have AB16 : Hd (v18.heap[L]? = some (.cells #[.string kR, .int .i64 t1F, .slice q1a q1m q1c, .int .i64 t2F, .slice q1A q1M q1C, .int .i64 hasF, .bool asdF, .string kR, .int .i64 t1C, .slice q2a q2m q2c, .int .i64 t2C, .slice q2A q2M q2C, .int .i64 hasC, .bool asdC, .string kR, .int .i64 t1B, .slice q3a q3m q3c, .int .i64 t2B, .slice q3A q3M q3C, .int .i64 hasB, .bool asdB, .string kR, .int .i64 t1Z, .slice q5a q5m q5c, .int .i64 t2Z, .slice q5A q5M q5C, .int .i64 hasZ, .bool asdZ, .string kR, .int .i64 t1Y, .slice q7a q7m q7c, .int .i64 t2Y, .slice q7A q7M q7C, .int .i64 hasY, .bool asdY] 29 (0, 0))) := ⟨(hB.block _ (lt_of_block AB15.out)).trans AB15.out⟩
      clear K15 R15 CAF15 CAC15 CAB15 CAZ15 CAY15 AB15
      clear hB
      have z0 : v18.cell? ⟨L, 21, none⟩ = some (.string kR) := arr_cell AB16.out (Below.refl _ v18) 21 _ rfl
      have z1 : v18.cell? ⟨L, 22, none⟩ = some (.int .i64 t1Z) := arr_cell AB16.out (Below.refl _ v18) 22 _ rfl
      have z2 : v18.cell? ⟨L, 23, none⟩ = some (.slice q5a q5m q5c) := arr_cell AB16.out (Below.refl _ v18) 23 _ rfl
      have z3 : v18.cell? ⟨L, 24, none⟩ = some (.int .i64 t2Z) := arr_cell AB16.out (Below.refl _ v18) 24 _ rfl
      have z4 : v18.cell? ⟨L, 25, none⟩ = some (.slice q5A q5M q5C) := arr_cell AB16.out (Below.refl _ v18) 25 _ rfl
      have z5 : v18.cell? ⟨L, 26, none⟩ = some (.int .i64 hasZ) := arr_cell AB16.out (Below.refl _ v18) 26 _ rfl
      have z6 : v18.cell? ⟨L, 27, none⟩ = some (.bool asdZ) := arr_cell AB16.out (Below.refl _ v18) 27 _ rfl
      obtain ⟨cr0, _, _, _, _, _, _⟩ := cells7 _ pR _ _ _ _ _ _ _ _ R16.out.box
      go_wp2_with fail
      have KK : Hd (∀ w', Below v18.heap.size v18 w' → ((w'.cell? ⟨L, 21, none⟩ = some (.string kR) ∧ w'.cell? ⟨L, 22, none⟩ = some (.int .i64 t1Z) ∧ w'.cell? ⟨L, 23, none⟩ = some (.slice q5a q5m q5c) ∧ w'.cell? ⟨L, 24, none⟩ = some (.int .i64 t2Z) ∧ w'.cell? ⟨L, 25, none⟩ = some (.slice q5A q5M q5C) ∧ w'.cell? ⟨L, 26, none⟩ = some (.int .i64 hasZ) ∧ w'.cell? ⟨L, 27, none⟩ = some (.bool asdZ)) ∧ w'.cell? ⟨pR, 0, none⟩ = some (.string kR))) := ⟨fun w' hb => ⟨⟨arr_cell AB16.out hb 21 _ rfl, arr_cell AB16.out hb 22 _ rfl, arr_cell AB16.out hb 23 _ rfl, arr_cell AB16.out hb 24 _ rfl, arr_cell AB16.out hb 25 _ rfl, arr_cell AB16.out hb 26 _ rfl, arr_cell AB16.out hb 27 _ rfl⟩, (R16.out.cells hb).1⟩⟩
      have D0 : Hd (Below v18.heap.size v18 v18.drew) := ⟨(Below.refl _ v18).drew⟩
      go_region_held (fun w' => (w'.cell? ⟨L, 21, none⟩ = some (.string kR) ∧ w'.cell? ⟨L, 22, none⟩ = some (.int .i64 t1Z) ∧ w'.cell? ⟨L, 23, none⟩ = some (.slice q5a q5m q5c) ∧ w'.cell? ⟨L, 24, none⟩ = some (.int .i64 t2Z) ∧ w'.cell? ⟨L, 25, none⟩ = some (.slice q5A q5M q5C) ∧ w'.cell? ⟨L, 26, none⟩ = some (.int .i64 hasZ) ∧ w'.cell? ⟨L, 27, none⟩ = some (.bool asdZ)) ∧ w'.cell? ⟨pR, 0, none⟩ = some (.string kR)) (first | (with_reducible exact KK.out _ D1.out) | (with_reducible exact KK.out _ D0.out)) (first | (go_at_call 11; refine (implRowOk_any kR t1Z q5a q5m q5c t2Z q5A q5M q5C hasZ asdZ b1Z b2Z _ HKR.out (CAZ16.out.1.below D0.out) (CAZ16.out.2.below D0.out) HLZ.out.1 HLZ.out.2 ⟨(K16.out.next D0.out).tabs⟩).mono ?_; rintro e u1 ⟨rfl, hB⟩; rewrite [HOZ.out]; have D1 : Hd (Below v18.heap.size v18 u1) := ⟨Below.next D0.out hB⟩; clear hB))
      clear z0 z1 z2 z3 z4 z5 z6
      clear cr0
      have K17 : Hd (CStays w a0 len0 bs u1) := ⟨K16.out.next D1.out⟩
      have R17 : Hd (RBx pR kR t1R a1R n1R c1R b1R t2R a2R n2R c2R b2R hasR asdR u1) := ⟨R16.out.below D1.out⟩
      have CAF17 : Hd (CellAt u1 q1a q1m q1c b1F ∧ CellAt u1 q1A q1M q1C b2F) := ⟨⟨CAF16.out.1.below D1.out, CAF16.out.2.below D1.out⟩⟩
      have CAC17 : Hd (CellAt u1 q2a q2m q2c b1C ∧ CellAt u1 q2A q2M q2C b2C) := ⟨⟨CAC16.out.1.below D1.out, CAC16.out.2.below D1.out⟩⟩
      have CAB17 : Hd (CellAt u1 q3a q3m q3c b1B ∧ CellAt u1 q3A q3M q3C b2B) := ⟨⟨CAB16.out.1.below D1.out, CAB16.out.2.below D1.out⟩⟩
      have CAZ17 : Hd (CellAt u1 q5a q5m q5c b1Z ∧ CellAt u1 q5A q5M q5C b2Z) := ⟨⟨CAZ16.out.1.below D1.out, CAZ16.out.2.below D1.out⟩⟩
      have CAY17 : Hd (CellAt u1 q7a q7m q7c b1Y ∧ CellAt u1 q7A q7M q7C b2Y) := ⟨⟨CAY16.out.1.below D1.out, CAY16.out.2.below D1.out⟩⟩
      have AB17 : Hd (u1.heap[L]? = some (.cells #[.string kR, .int .i64 t1F, .slice q1a q1m q1c, .int .i64 t2F, .slice q1A q1M q1C, .int .i64 hasF, .bool asdF, .string kR, .int .i64 t1C, .slice q2a q2m q2c, .int .i64 t2C, .slice q2A q2M q2C, .int .i64 hasC, .bool asdC, .string kR, .int .i64 t1B, .slice q3a q3m q3c, .int .i64 t2B, .slice q3A q3M q3C, .int .i64 hasB, .bool asdB, .string kR, .int .i64 t1Z, .slice q5a q5m q5c, .int .i64 t2Z, .slice q5A q5M q5C, .int .i64 hasZ, .bool asdZ, .string kR, .int .i64 t1Y, .slice q7a q7m q7c, .int .i64 t2Y, .slice q7A q7M q7C, .int .i64 hasY, .bool asdY] 29 (0, 0))) := ⟨(D1.out.block _ (lt_of_block AB16.out)).trans AB16.out⟩
      clear K16 R16 CAF16 CAC16 CAB16 CAZ16 CAY16 AB16
      clear KK D0 D1
      generalize hu : u1 = v19 at *
      clear hu
      go_wp2_with fail
      rewrite [rounds_succ]
      have z0 : v19.cell? ⟨L, 28, none⟩ = some (.string kR) := arr_cell AB17.out (Below.refl _ v19) 28 _ rfl
      have z1 : v19.cell? ⟨L, 29, none⟩ = some (.int .i64 t1Y) := arr_cell AB17.out (Below.refl _ v19) 29 _ rfl
      have z2 : v19.cell? ⟨L, 30, none⟩ = some (.slice q7a q7m q7c) := arr_cell AB17.out (Below.refl _ v19) 30 _ rfl
      have z3 : v19.cell? ⟨L, 31, none⟩ = some (.int .i64 t2Y) := arr_cell AB17.out (Below.refl _ v19) 31 _ rfl
      have z4 : v19.cell? ⟨L, 32, none⟩ = some (.slice q7A q7M q7C) := arr_cell AB17.out (Below.refl _ v19) 32 _ rfl
      have z5 : v19.cell? ⟨L, 33, none⟩ = some (.int .i64 hasY) := arr_cell AB17.out (Below.refl _ v19) 33 _ rfl
      have z6 : v19.cell? ⟨L, 34, none⟩ = some (.bool asdY) := arr_cell AB17.out (Below.refl _ v19) 34 _ rfl
      go_wp2_with fail
      clear z0 z1 z2 z3 z4 z5 z6
      refine (implRowText_any kR t1Y q7a q7m q7c t2Y q7A q7M q7C hasY asdY b1Y b2Y _ CAY17.out.1 CAY17.out.2 HLY.out.1 HLY.out.2 ⟨K17.out.tabs⟩).mono ?_
      rintro e v20 ⟨rfl, hB⟩
      rewrite [HSY.out, HTY.out]
      have K18 : Hd (CStays w a0 len0 bs v20) := ⟨K17.out.next hB⟩
      have R18 : Hd (RBx pR kR t1R a1R n1R c1R b1R t2R a2R n2R c2R b2R hasR asdR v20) := ⟨R17.out.below hB⟩
      have CAF18 : Hd (CellAt v20 q1a q1m q1c b1F ∧ CellAt v20 q1A q1M q1C b2F) := ⟨⟨CAF17.out.1.below hB, CAF17.out.2.below hB⟩⟩
      have CAC18 : Hd (CellAt v20 q2a q2m q2c b1C ∧ CellAt v20 q2A q2M q2C b2C) := ⟨⟨CAC17.out.1.below hB, CAC17.out.2.below hB⟩⟩
      have CAB18 : Hd (CellAt v20 q3a q3m q3c b1B ∧ CellAt v20 q3A q3M q3C b2B) := ⟨⟨CAB17.out.1.below hB, CAB17.out.2.below hB⟩⟩
      have CAZ18 : Hd (CellAt v20 q5a q5m q5c b1Z ∧ CellAt v20 q5A q5M q5C b2Z) := ⟨⟨CAZ17.out.1.below hB, CAZ17.out.2.below hB⟩⟩
      have CAY18 : Hd (CellAt v20 q7a q7m q7c b1Y ∧ CellAt v20 q7A q7M q7C b2Y) := ⟨⟨CAY17.out.1.below hB, CAY17.out.2.below hB⟩⟩
      have AB18 : Hd (v20.heap[L]? = some (.cells #[.string kR, .int .i64 t1F, .slice q1a q1m q1c, .int .i64 t2F, .slice q1A q1M q1C, .int .i64 hasF, .bool asdF, .string kR, .int .i64 t1C, .slice q2a q2m q2c, .int .i64 t2C, .slice q2A q2M q2C, .int .i64 hasC, .bool asdC, .string kR, .int .i64 t1B, .slice q3a q3m q3c, .int .i64 t2B, .slice q3A q3M q3C, .int .i64 hasB, .bool asdB, .string kR, .int .i64 t1Z, .slice q5a q5m q5c, .int .i64 t2Z, .slice q5A q5M q5C, .int .i64 hasZ, .bool asdZ, .string kR, .int .i64 t1Y, .slice q7a q7m q7c, .int .i64 t2Y, .slice q7A q7M q7C, .int .i64 hasY, .bool asdY] 29 (0, 0))) := ⟨(hB.block _ (lt_of_block AB17.out)).trans AB17.out⟩
      clear K17 R17 CAF17 CAC17 CAB17 CAZ17 CAY17 AB17
      clear hB
      have z0 : v20.cell? ⟨L, 28, none⟩ = some (.string kR) := arr_cell AB18.out (Below.refl _ v20) 28 _ rfl
      have z1 : v20.cell? ⟨L, 29, none⟩ = some (.int .i64 t1Y) := arr_cell AB18.out (Below.refl _ v20) 29 _ rfl
      have z2 : v20.cell? ⟨L, 30, none⟩ = some (.slice q7a q7m q7c) := arr_cell AB18.out (Below.refl _ v20) 30 _ rfl
      have z3 : v20.cell? ⟨L, 31, none⟩ = some (.int .i64 t2Y) := arr_cell AB18.out (Below.refl _ v20) 31 _ rfl
      have z4 : v20.cell? ⟨L, 32, none⟩ = some (.slice q7A q7M q7C) := arr_cell AB18.out (Below.refl _ v20) 32 _ rfl
      have z5 : v20.cell? ⟨L, 33, none⟩ = some (.int .i64 hasY) := arr_cell AB18.out (Below.refl _ v20) 33 _ rfl
      have z6 : v20.cell? ⟨L, 34, none⟩ = some (.bool asdY) := arr_cell AB18.out (Below.refl _ v20) 34 _ rfl
      obtain ⟨cr0, _, _, _, _, _, _⟩ := cells7 _ pR _ _ _ _ _ _ _ _ R18.out.box
      go_wp2_with fail
      have KK : Hd (∀ w', Below v20.heap.size v20 w' → ((w'.cell? ⟨L, 28, none⟩ = some (.string kR) ∧ w'.cell? ⟨L, 29, none⟩ = some (.int .i64 t1Y) ∧ w'.cell? ⟨L, 30, none⟩ = some (.slice q7a q7m q7c) ∧ w'.cell? ⟨L, 31, none⟩ = some (.int .i64 t2Y) ∧ w'.cell? ⟨L, 32, none⟩ = some (.slice q7A q7M q7C) ∧ w'.cell? ⟨L, 33, none⟩ = some (.int .i64 hasY) ∧ w'.cell? ⟨L, 34, none⟩ = some (.bool asdY)) ∧ w'.cell? ⟨pR, 0, none⟩ = some (.string kR))) := ⟨fun w' hb => ⟨⟨arr_cell AB18.out hb 28 _ rfl, arr_cell AB18.out hb 29 _ rfl, arr_cell AB18.out hb 30 _ rfl, arr_cell AB18.out hb 31 _ rfl, arr_cell AB18.out hb 32 _ rfl, arr_cell AB18.out hb 33 _ rfl, arr_cell AB18.out hb 34 _ rfl⟩, (R18.out.cells hb).1⟩⟩
      have D0 : Hd (Below v20.heap.size v20 v20.drew) := ⟨(Below.refl _ v20).drew⟩
      go_region_held (fun w' => (w'.cell? ⟨L, 28, none⟩ = some (.string kR) ∧ w'.cell? ⟨L, 29, none⟩ = some (.int .i64 t1Y) ∧ w'.cell? ⟨L, 30, none⟩ = some (.slice q7a q7m q7c) ∧ w'.cell? ⟨L, 31, none⟩ = some (.int .i64 t2Y) ∧ w'.cell? ⟨L, 32, none⟩ = some (.slice q7A q7M q7C) ∧ w'.cell? ⟨L, 33, none⟩ = some (.int .i64 hasY) ∧ w'.cell? ⟨L, 34, none⟩ = some (.bool asdY)) ∧ w'.cell? ⟨pR, 0, none⟩ = some (.string kR)) (first | (with_reducible exact KK.out _ D1.out) | (with_reducible exact KK.out _ D0.out)) (first | (go_at_call 11; refine (implRowOk_any kR t1Y q7a q7m q7c t2Y q7A q7M q7C hasY asdY b1Y b2Y _ HKR.out (CAY18.out.1.below D0.out) (CAY18.out.2.below D0.out) HLY.out.1 HLY.out.2 ⟨(K18.out.next D0.out).tabs⟩).mono ?_; rintro e u1 ⟨rfl, hB⟩; rewrite [HOY.out]; have D1 : Hd (Below v20.heap.size v20 u1) := ⟨Below.next D0.out hB⟩; clear hB))
      clear z0 z1 z2 z3 z4 z5 z6
      clear cr0
      have K19 : Hd (CStays w a0 len0 bs u1) := ⟨K18.out.next D1.out⟩
      have R19 : Hd (RBx pR kR t1R a1R n1R c1R b1R t2R a2R n2R c2R b2R hasR asdR u1) := ⟨R18.out.below D1.out⟩
      have CAF19 : Hd (CellAt u1 q1a q1m q1c b1F ∧ CellAt u1 q1A q1M q1C b2F) := ⟨⟨CAF18.out.1.below D1.out, CAF18.out.2.below D1.out⟩⟩
      have CAC19 : Hd (CellAt u1 q2a q2m q2c b1C ∧ CellAt u1 q2A q2M q2C b2C) := ⟨⟨CAC18.out.1.below D1.out, CAC18.out.2.below D1.out⟩⟩
      have CAB19 : Hd (CellAt u1 q3a q3m q3c b1B ∧ CellAt u1 q3A q3M q3C b2B) := ⟨⟨CAB18.out.1.below D1.out, CAB18.out.2.below D1.out⟩⟩
      have CAZ19 : Hd (CellAt u1 q5a q5m q5c b1Z ∧ CellAt u1 q5A q5M q5C b2Z) := ⟨⟨CAZ18.out.1.below D1.out, CAZ18.out.2.below D1.out⟩⟩
      have CAY19 : Hd (CellAt u1 q7a q7m q7c b1Y ∧ CellAt u1 q7A q7M q7C b2Y) := ⟨⟨CAY18.out.1.below D1.out, CAY18.out.2.below D1.out⟩⟩
      have AB19 : Hd (u1.heap[L]? = some (.cells #[.string kR, .int .i64 t1F, .slice q1a q1m q1c, .int .i64 t2F, .slice q1A q1M q1C, .int .i64 hasF, .bool asdF, .string kR, .int .i64 t1C, .slice q2a q2m q2c, .int .i64 t2C, .slice q2A q2M q2C, .int .i64 hasC, .bool asdC, .string kR, .int .i64 t1B, .slice q3a q3m q3c, .int .i64 t2B, .slice q3A q3M q3C, .int .i64 hasB, .bool asdB, .string kR, .int .i64 t1Z, .slice q5a q5m q5c, .int .i64 t2Z, .slice q5A q5M q5C, .int .i64 hasZ, .bool asdZ, .string kR, .int .i64 t1Y, .slice q7a q7m q7c, .int .i64 t2Y, .slice q7A q7M q7C, .int .i64 hasY, .bool asdY] 29 (0, 0))) := ⟨(D1.out.block _ (lt_of_block AB18.out)).trans AB18.out⟩
      clear K18 R18 CAF18 CAC18 CAB18 CAZ18 CAY18 AB18
      clear KK D0 D1
      generalize hu : u1 = v21 at *
      clear hu
      go_wp2_with fail
      rewrite [rounds_succ]
      go_wp2_with fail
      have z0_0 : v21.cell? ⟨L, 0, none⟩ = some (.string kR) := arr_cell AB19.out (Below.refl _ v21) 0 _ rfl
      have z0_1 : v21.cell? ⟨L, 1, none⟩ = some (.int .i64 t1F) := arr_cell AB19.out (Below.refl _ v21) 1 _ rfl
      have z0_2 : v21.cell? ⟨L, 2, none⟩ = some (.slice q1a q1m q1c) := arr_cell AB19.out (Below.refl _ v21) 2 _ rfl
      have z0_3 : v21.cell? ⟨L, 3, none⟩ = some (.int .i64 t2F) := arr_cell AB19.out (Below.refl _ v21) 3 _ rfl
      have z0_4 : v21.cell? ⟨L, 4, none⟩ = some (.slice q1A q1M q1C) := arr_cell AB19.out (Below.refl _ v21) 4 _ rfl
      have z0_5 : v21.cell? ⟨L, 5, none⟩ = some (.int .i64 hasF) := arr_cell AB19.out (Below.refl _ v21) 5 _ rfl
      have z0_6 : v21.cell? ⟨L, 6, none⟩ = some (.bool asdF) := arr_cell AB19.out (Below.refl _ v21) 6 _ rfl
      have z1_0 : v21.cell? ⟨L, 7, none⟩ = some (.string kR) := arr_cell AB19.out (Below.refl _ v21) 7 _ rfl
      have z1_1 : v21.cell? ⟨L, 8, none⟩ = some (.int .i64 t1C) := arr_cell AB19.out (Below.refl _ v21) 8 _ rfl
      have z1_2 : v21.cell? ⟨L, 9, none⟩ = some (.slice q2a q2m q2c) := arr_cell AB19.out (Below.refl _ v21) 9 _ rfl
      have z1_3 : v21.cell? ⟨L, 10, none⟩ = some (.int .i64 t2C) := arr_cell AB19.out (Below.refl _ v21) 10 _ rfl
      have z1_4 : v21.cell? ⟨L, 11, none⟩ = some (.slice q2A q2M q2C) := arr_cell AB19.out (Below.refl _ v21) 11 _ rfl
      have z1_5 : v21.cell? ⟨L, 12, none⟩ = some (.int .i64 hasC) := arr_cell AB19.out (Below.refl _ v21) 12 _ rfl
      have z1_6 : v21.cell? ⟨L, 13, none⟩ = some (.bool asdC) := arr_cell AB19.out (Below.refl _ v21) 13 _ rfl
      have z2_0 : v21.cell? ⟨L, 14, none⟩ = some (.string kR) := arr_cell AB19.out (Below.refl _ v21) 14 _ rfl
      have z2_1 : v21.cell? ⟨L, 15, none⟩ = some (.int .i64 t1B) := arr_cell AB19.out (Below.refl _ v21) 15 _ rfl
      have z2_2 : v21.cell? ⟨L, 16, none⟩ = some (.slice q3a q3m q3c) := arr_cell AB19.out (Below.refl _ v21) 16 _ rfl
      have z2_3 : v21.cell? ⟨L, 17, none⟩ = some (.int .i64 t2B) := arr_cell AB19.out (Below.refl _ v21) 17 _ rfl
      have z2_4 : v21.cell? ⟨L, 18, none⟩ = some (.slice q3A q3M q3C) := arr_cell AB19.out (Below.refl _ v21) 18 _ rfl
      have z2_5 : v21.cell? ⟨L, 19, none⟩ = some (.int .i64 hasB) := arr_cell AB19.out (Below.refl _ v21) 19 _ rfl
      have z2_6 : v21.cell? ⟨L, 20, none⟩ = some (.bool asdB) := arr_cell AB19.out (Below.refl _ v21) 20 _ rfl
      obtain ⟨cr0, cr1, cr2, cr3, cr4, cr5, cr6⟩ := cells7 _ pR _ _ _ _ _ _ _ _ R19.out.box
      have HFF : Hd (fillR ⟨kR, t1F, b1F, t2F, b2F, hasF, asdF⟩ = ⟨kR, t1F, b1F, t2F, b2F, hasF, asdF⟩) := ⟨by rw [← HMF.out]; exact fill_again HOK.out⟩
      have HCC : Hd (cutR ⟨kR, t1C, b1C, t2C, b2C, hasC, asdC⟩ = ⟨kR, t1C, b1C, t2C, b2C, hasC, asdC⟩) := ⟨by rw [← HMC.out]; exact cut_again HOK.out⟩
      have HBB : Hd (backR ⟨kR, t1B, b1B, t2B, b2B, hasB, asdB⟩ = ⟨kR, t1B, b1B, t2B, b2B, hasB, asdB⟩) := ⟨by rw [← HMB.out]; exact back_again HOK.out⟩
      go_wp2_with fail
      have KK : Hd (∀ w', Below v21.heap.size v21 w' → ((w'.cell? ⟨pR, 0, none⟩ = some (.string kR) ∧ w'.cell? ⟨pR, 1, none⟩ = some (.int .i64 t1R) ∧ w'.cell? ⟨pR, 2, none⟩ = some (.slice a1R n1R c1R) ∧ w'.cell? ⟨pR, 3, none⟩ = some (.int .i64 t2R) ∧ w'.cell? ⟨pR, 4, none⟩ = some (.slice a2R n2R c2R) ∧ w'.cell? ⟨pR, 5, none⟩ = some (.int .i64 hasR) ∧ w'.cell? ⟨pR, 6, none⟩ = some (.bool asdR)) ∧ (w'.cell? ⟨L, 0, none⟩ = some (.string kR) ∧ w'.cell? ⟨L, 1, none⟩ = some (.int .i64 t1F) ∧ w'.cell? ⟨L, 2, none⟩ = some (.slice q1a q1m q1c) ∧ w'.cell? ⟨L, 3, none⟩ = some (.int .i64 t2F) ∧ w'.cell? ⟨L, 4, none⟩ = some (.slice q1A q1M q1C) ∧ w'.cell? ⟨L, 5, none⟩ = some (.int .i64 hasF) ∧ w'.cell? ⟨L, 6, none⟩ = some (.bool asdF)) ∧ (w'.cell? ⟨L, 7, none⟩ = some (.string kR) ∧ w'.cell? ⟨L, 8, none⟩ = some (.int .i64 t1C) ∧ w'.cell? ⟨L, 9, none⟩ = some (.slice q2a q2m q2c) ∧ w'.cell? ⟨L, 10, none⟩ = some (.int .i64 t2C) ∧ w'.cell? ⟨L, 11, none⟩ = some (.slice q2A q2M q2C) ∧ w'.cell? ⟨L, 12, none⟩ = some (.int .i64 hasC) ∧ w'.cell? ⟨L, 13, none⟩ = some (.bool asdC)) ∧ w'.cell? ⟨L, 14, none⟩ = some (.string kR) ∧ w'.cell? ⟨L, 15, none⟩ = some (.int .i64 t1B) ∧ w'.cell? ⟨L, 16, none⟩ = some (.slice q3a q3m q3c) ∧ w'.cell? ⟨L, 17, none⟩ = some (.int .i64 t2B) ∧ w'.cell? ⟨L, 18, none⟩ = some (.slice q3A q3M q3C) ∧ w'.cell? ⟨L, 19, none⟩ = some (.int .i64 hasB) ∧ w'.cell? ⟨L, 20, none⟩ = some (.bool asdB))) := ⟨fun w' hb => ⟨R19.out.cells hb, ⟨arr_cell AB19.out hb 0 _ rfl, arr_cell AB19.out hb 1 _ rfl, arr_cell AB19.out hb 2 _ rfl, arr_cell AB19.out hb 3 _ rfl, arr_cell AB19.out hb 4 _ rfl, arr_cell AB19.out hb 5 _ rfl, arr_cell AB19.out hb 6 _ rfl⟩, ⟨arr_cell AB19.out hb 7 _ rfl, arr_cell AB19.out hb 8 _ rfl, arr_cell AB19.out hb 9 _ rfl, arr_cell AB19.out hb 10 _ rfl, arr_cell AB19.out hb 11 _ rfl, arr_cell AB19.out hb 12 _ rfl, arr_cell AB19.out hb 13 _ rfl⟩, ⟨arr_cell AB19.out hb 14 _ rfl, arr_cell AB19.out hb 15 _ rfl, arr_cell AB19.out hb 16 _ rfl, arr_cell AB19.out hb 17 _ rfl, arr_cell AB19.out hb 18 _ rfl, arr_cell AB19.out hb 19 _ rfl, arr_cell AB19.out hb 20 _ rfl⟩⟩⟩
      have D0 : Hd (Below v21.heap.size v21 v21.drew) := ⟨(Below.refl _ v21).drew⟩
      go_region_held (fun w' => (w'.cell? ⟨pR, 0, none⟩ = some (.string kR) ∧ w'.cell? ⟨pR, 1, none⟩ = some (.int .i64 t1R) ∧ w'.cell? ⟨pR, 2, none⟩ = some (.slice a1R n1R c1R) ∧ w'.cell? ⟨pR, 3, none⟩ = some (.int .i64 t2R) ∧ w'.cell? ⟨pR, 4, none⟩ = some (.slice a2R n2R c2R) ∧ w'.cell? ⟨pR, 5, none⟩ = some (.int .i64 hasR) ∧ w'.cell? ⟨pR, 6, none⟩ = some (.bool asdR)) ∧ (w'.cell? ⟨L, 0, none⟩ = some (.string kR) ∧ w'.cell? ⟨L, 1, none⟩ = some (.int .i64 t1F) ∧ w'.cell? ⟨L, 2, none⟩ = some (.slice q1a q1m q1c) ∧ w'.cell? ⟨L, 3, none⟩ = some (.int .i64 t2F) ∧ w'.cell? ⟨L, 4, none⟩ = some (.slice q1A q1M q1C) ∧ w'.cell? ⟨L, 5, none⟩ = some (.int .i64 hasF) ∧ w'.cell? ⟨L, 6, none⟩ = some (.bool asdF)) ∧ (w'.cell? ⟨L, 7, none⟩ = some (.string kR) ∧ w'.cell? ⟨L, 8, none⟩ = some (.int .i64 t1C) ∧ w'.cell? ⟨L, 9, none⟩ = some (.slice q2a q2m q2c) ∧ w'.cell? ⟨L, 10, none⟩ = some (.int .i64 t2C) ∧ w'.cell? ⟨L, 11, none⟩ = some (.slice q2A q2M q2C) ∧ w'.cell? ⟨L, 12, none⟩ = some (.int .i64 hasC) ∧ w'.cell? ⟨L, 13, none⟩ = some (.bool asdC)) ∧ w'.cell? ⟨L, 14, none⟩ = some (.string kR) ∧ w'.cell? ⟨L, 15, none⟩ = some (.int .i64 t1B) ∧ w'.cell? ⟨L, 16, none⟩ = some (.slice q3a q3m q3c) ∧ w'.cell? ⟨L, 17, none⟩ = some (.int .i64 t2B) ∧ w'.cell? ⟨L, 18, none⟩ = some (.slice q3A q3M q3C) ∧ w'.cell? ⟨L, 19, none⟩ = some (.int .i64 hasB) ∧ w'.cell? ⟨L, 20, none⟩ = some (.bool asdB)) (first | (with_reducible exact KK.out _ D7.out) | (with_reducible exact KK.out _ D6.out) | (with_reducible exact KK.out _ D5.out) | (with_reducible exact KK.out _ D4.out) | (with_reducible exact KK.out _ D3.out) | (with_reducible exact KK.out _ D2.out) | (with_reducible exact KK.out _ D1.out) | (with_reducible exact KK.out _ D0.out)) (first | (have G1 := D6; clear G1; go_at_call 9; refine (sameRow_true kR t1B m2a m2m m2c t2B m2A m2M m2C hasB asdB q3a q3m q3c q3A q3M q3C b1B b2B _ M2.out.1 M2.out.2 (CAB19.out.1.below D6.out) (CAB19.out.2.below D6.out)).mono ?_; rintro e u7 ⟨rfl, hB⟩; have D7 : Hd (Below v21.heap.size v21 u7) := ⟨Below.next D6.out hB⟩; clear hB) | (have G1 := D5; clear G1; go_at_call 15; refine (implBackRow_any kR t1B q3a q3m q3c t2B q3A q3M q3C hasB asdB b1B b2B _ HKR.out (CAB19.out.1.below D5.out) (CAB19.out.2.below D5.out) HLB.out.1 HLB.out.2 ⟨(K19.out.next D5.out).tabs⟩).mono ?_; rewrite [HBB.out]; rintro e u6 h9; obtain ⟨m2a, m2m, m2c, m2A, m2M, m2C, rfl, hn1, hn2, hA, _, hB⟩ := h9.at_; have D6 : Hd (Below v21.heap.size v21 u6) := ⟨Below.next D5.out hB⟩; have M2 : Hd (CellAt u6 m2a m2m m2c b1B ∧ CellAt u6 m2A m2M m2C b2B) := ⟨hA.one.at_ hn1, hA.two.at_ hn2⟩; clear h9 hn1 hn2 hA hB) | (have G1 := D4; clear G1; go_at_call 9; refine (sameRow_true kR t1C m1a m1m m1c t2C m1A m1M m1C hasC asdC q2a q2m q2c q2A q2M q2C b1C b2C _ M1.out.1 M1.out.2 (CAC19.out.1.below D4.out) (CAC19.out.2.below D4.out)).mono ?_; rintro e u5 ⟨rfl, hB⟩; have D5 : Hd (Below v21.heap.size v21 u5) := ⟨Below.next D4.out hB⟩; clear hB) | (have G1 := D3; clear G1; go_at_call 14; refine (implCutRow_any kR t1C q2a q2m q2c t2C q2A q2M q2C hasC asdC b1C b2C _ HKR.out (CAC19.out.1.below D3.out) (CAC19.out.2.below D3.out) HLC.out.1 HLC.out.2 ⟨(K19.out.next D3.out).tabs⟩).mono ?_; rewrite [HCC.out]; rintro e u4 h9; obtain ⟨m1a, m1m, m1c, m1A, m1M, m1C, rfl, hn1, hn2, hA, _, hB⟩ := h9.at_; have D4 : Hd (Below v21.heap.size v21 u4) := ⟨Below.next D3.out hB⟩; have M1 : Hd (CellAt u4 m1a m1m m1c b1C ∧ CellAt u4 m1A m1M m1C b2C) := ⟨hA.one.at_ hn1, hA.two.at_ hn2⟩; clear h9 hn1 hn2 hA hB) | (have G1 := D2; clear G1; go_at_call 9; refine (sameRow_true kR t1F m0a m0m m0c t2F m0A m0M m0C hasF asdF q1a q1m q1c q1A q1M q1C b1F b2F _ M0.out.1 M0.out.2 (CAF19.out.1.below D2.out) (CAF19.out.2.below D2.out)).mono ?_; rintro e u3 ⟨rfl, hB⟩; have D3 : Hd (Below v21.heap.size v21 u3) := ⟨Below.next D2.out hB⟩; clear hB) | (have G1 := D1; clear G1; go_at_call 13; refine (implFillRow_any kR t1F q1a q1m q1c t2F q1A q1M q1C hasF asdF b1F b2F _ HKR.out (CAF19.out.1.below D1.out) (CAF19.out.2.below D1.out) HLF.out.1 HLF.out.2 ⟨(K19.out.next D1.out).tabs⟩).mono ?_; rewrite [HFF.out]; rintro e u2 h9; obtain ⟨m0a, m0m, m0c, m0A, m0M, m0C, rfl, hn1, hn2, hA, _, hB⟩ := h9.at_; have D2 : Hd (Below v21.heap.size v21 u2) := ⟨Below.next D1.out hB⟩; have M0 : Hd (CellAt u2 m0a m0m m0c b1F ∧ CellAt u2 m0A m0M m0C b2F) := ⟨hA.one.at_ hn1, hA.two.at_ hn2⟩; clear h9 hn1 hn2 hA hB) | (go_at_call 11; refine (implRowOk_any kR t1R a1R n1R c1R t2R a2R n2R c2R hasR asdR b1R b2R _ R19.out.lk (R19.out.at1.below D0.out) (R19.out.at2.below D0.out) R19.out.l1 R19.out.l2 ⟨(K19.out.next D0.out).tabs⟩).mono ?_; rintro e u1 ⟨rfl, hB⟩; rewrite [HOK.out]; have D1 : Hd (Below v21.heap.size v21 u1) := ⟨Below.next D0.out hB⟩; clear hB))
      have KZ : Hd (CStays w a0 len0 bs u7) := ⟨K19.out.next D7.out⟩
      clear cr0 cr1 cr2 cr3 cr4 cr5 cr6 z0_0 z0_1 z0_2 z0_3 z0_4 z0_5 z0_6 z1_0 z1_1 z1_2 z1_3 z1_4 z1_5 z1_6 z2_0 z2_1 z2_2 z2_3 z2_4 z2_5 z2_6
      clear KK D0 D1 D2 D3 D4 D5 D6 D7
      go_wp2_with fail
      go_ret
      exact ⟨rfl, KZ.out.below⟩
    have hcb : (cd == 0) = false := by simpa using hc0
    go_wp2_with fail
    clear V4
    refine (drawRow_any a0 len0 cap0 bs _ hl K4.out.reads).mono ?_
    rintro e v7 h9
    obtain ⟨kR, t1R, b1R, t2R, b2R, hasR, asdR, a1R, n1R, c1R, a2R, n2R, c2R, rfl, hok, hs, hc1, hc2, hB⟩ := h9.at_
    have HOK : Hd (rOk ⟨kR, t1R, b1R, t2R, b2R, hasR, asdR⟩ = true) := ⟨hok⟩
    clear hok
    have K5 : Hd (CStays w a0 len0 bs (v7.alloc (.cells #[.string kR, .int .i64 t1R, .slice a1R n1R c1R, .int .i64 t2R, .slice a2R n2R c2R, .int .i64 hasR, .bool asdR] 29))) := ⟨(K4.out.next hB).next (below_lit v7 _)⟩
    clear K4  
    have R5 : Hd (RBx v7.heap.size kR t1R a1R n1R c1R b1R t2R a2R n2R c2R b2R hasR asdR (v7.alloc (.cells #[.string kR, .int .i64 t1R, .slice a1R n1R c1R, .int .i64 t2R, .slice a2R n2R c2R, .int .i64 hasR, .bool asdR] 29))) := ⟨rBx_new hc1 hc2 hs⟩
    generalize hd : v7.heap.size = pR at *
    clear h9 hs hc1 hc2 hB
    obtain ⟨S, h1⟩ : ∃ x, (rS ⟨kR, t1R, b1R, t2R, b2R, hasR, asdR⟩).toArray = x := ⟨_, rfl⟩
    have HSS : Hd ((rS ⟨kR, t1R, b1R, t2R, b2R, hasR, asdR⟩).toArray = S) := ⟨h1⟩
    clear h1
    obtain ⟨tk, h1⟩ : ∃ x, rT ⟨kR, t1R, b1R, t2R, b2R, hasR, asdR⟩ = x := ⟨_, rfl⟩
    have HTK : Hd (rT ⟨kR, t1R, b1R, t2R, b2R, hasR, asdR⟩ = tk) := ⟨h1⟩
    clear h1
    obtain ⟨cr0, cr1, cr2, cr3, cr4, cr5, cr6⟩ := cells7 _ pR _ _ _ _ _ _ _ _ R5.out.box
    go_wp2_with fail
    generalize hw : v7.alloc (.cells #[.string kR, .int .i64 t1R, .slice a1R n1R c1R, .int .i64 t2R, .slice a2R n2R c2R, .int .i64 hasR, .bool asdR] 29) = v8 at *
    clear hd hw
    clear cr0 cr1 cr2 cr3 cr4 cr5 cr6
    refine (implRowText_any kR t1R a1R n1R c1R t2R a2R n2R c2R hasR asdR b1R b2R _ R5.out.at1 R5.out.at2 R5.out.l1 R5.out.l2 ⟨K5.out.tabs⟩).mono ?_
    rintro e v9 ⟨rfl, hB⟩
    rewrite [HSS.out, HTK.out]
    have K6 : Hd (CStays w a0 len0 bs v9) := ⟨K5.out.next hB⟩
    have R6 : Hd (RBx pR kR t1R a1R n1R c1R b1R t2R a2R n2R c2R b2R hasR asdR v9) := ⟨R5.out.below hB⟩
    clear K5 R5 
    clear hB
    obtain ⟨⟨kF, t1F, b1F, t2F, b2F, hasF, asdF⟩, h1⟩ : ∃ r, fillR ⟨kR, t1R, b1R, t2R, b2R, hasR, asdR⟩ = r := ⟨_, rfl⟩
    have st1 : Stays9 ⟨kR, t1R, b1R, t2R, b2R, hasR, asdR⟩ ⟨kF, t1F, b1F, t2F, b2F, hasF, asdF⟩ := by rw [← h1]; exact fill_stays HOK.out
    have hkk : kR = kF := st1.key.symm
    subst hkk
    have HYF : Hd (Stays9 ⟨kR, t1R, b1R, t2R, b2R, hasR, asdR⟩ ⟨kR, t1F, b1F, t2F, b2F, hasF, asdF⟩) := ⟨st1⟩
    have HMF : Hd (fillR ⟨kR, t1R, b1R, t2R, b2R, hasR, asdR⟩ = ⟨kR, t1F, b1F, t2F, b2F, hasF, asdF⟩) := ⟨h1⟩
    clear h1 st1
    obtain ⟨⟨kC, t1C, b1C, t2C, b2C, hasC, asdC⟩, h1⟩ : ∃ r, cutR ⟨kR, t1R, b1R, t2R, b2R, hasR, asdR⟩ = r := ⟨_, rfl⟩
    have st1 : Stays9 ⟨kR, t1R, b1R, t2R, b2R, hasR, asdR⟩ ⟨kC, t1C, b1C, t2C, b2C, hasC, asdC⟩ := by rw [← h1]; exact cut_stays HOK.out
    have hkk : kR = kC := st1.key.symm
    subst hkk
    have HYC : Hd (Stays9 ⟨kR, t1R, b1R, t2R, b2R, hasR, asdR⟩ ⟨kR, t1C, b1C, t2C, b2C, hasC, asdC⟩) := ⟨st1⟩
    have HMC : Hd (cutR ⟨kR, t1R, b1R, t2R, b2R, hasR, asdR⟩ = ⟨kR, t1C, b1C, t2C, b2C, hasC, asdC⟩) := ⟨h1⟩
    clear h1 st1
    obtain ⟨⟨kB, t1B, b1B, t2B, b2B, hasB, asdB⟩, h1⟩ : ∃ r, backR ⟨kR, t1R, b1R, t2R, b2R, hasR, asdR⟩ = r := ⟨_, rfl⟩
    have st1 : Stays9 ⟨kR, t1R, b1R, t2R, b2R, hasR, asdR⟩ ⟨kB, t1B, b1B, t2B, b2B, hasB, asdB⟩ := by rw [← h1]; exact back_stays HOK.out
    have hkk : kR = kB := st1.key.symm
    subst hkk
    have HYB : Hd (Stays9 ⟨kR, t1R, b1R, t2R, b2R, hasR, asdR⟩ ⟨kR, t1B, b1B, t2B, b2B, hasB, asdB⟩) := ⟨st1⟩
    have HMB : Hd (backR ⟨kR, t1R, b1R, t2R, b2R, hasR, asdR⟩ = ⟨kR, t1B, b1B, t2B, b2B, hasB, asdB⟩) := ⟨h1⟩
    clear h1 st1
    obtain ⟨⟨kZ, t1Z, b1Z, t2Z, b2Z, hasZ, asdZ⟩, h1⟩ : ∃ r, cutR ⟨kR, t1F, b1F, t2F, b2F, hasF, asdF⟩ = r := ⟨_, rfl⟩
    have st1 : Stays9 ⟨kR, t1R, b1R, t2R, b2R, hasR, asdR⟩ ⟨kZ, t1Z, b1Z, t2Z, b2Z, hasZ, asdZ⟩ := by rw [← h1]; exact HYF.out.trans (cut_stays HYF.out.ok)
    have hkk : kR = kZ := st1.key.symm
    subst hkk
    have HYZ : Hd (Stays9 ⟨kR, t1R, b1R, t2R, b2R, hasR, asdR⟩ ⟨kR, t1Z, b1Z, t2Z, b2Z, hasZ, asdZ⟩) := ⟨st1⟩
    have HMZ : Hd (cutR ⟨kR, t1F, b1F, t2F, b2F, hasF, asdF⟩ = ⟨kR, t1Z, b1Z, t2Z, b2Z, hasZ, asdZ⟩) := ⟨h1⟩
    clear h1 st1
    obtain ⟨⟨kY, t1Y, b1Y, t2Y, b2Y, hasY, asdY⟩, h1⟩ : ∃ r, backR ⟨kR, t1F, b1F, t2F, b2F, hasF, asdF⟩ = r := ⟨_, rfl⟩
    have st1 : Stays9 ⟨kR, t1R, b1R, t2R, b2R, hasR, asdR⟩ ⟨kY, t1Y, b1Y, t2Y, b2Y, hasY, asdY⟩ := by rw [← h1]; exact HYF.out.trans (back_stays HYF.out.ok)
    have hkk : kR = kY := st1.key.symm
    subst hkk
    have HYY : Hd (Stays9 ⟨kR, t1R, b1R, t2R, b2R, hasR, asdR⟩ ⟨kR, t1Y, b1Y, t2Y, b2Y, hasY, asdY⟩) := ⟨st1⟩
    have HMY : Hd (backR ⟨kR, t1F, b1F, t2F, b2F, hasF, asdF⟩ = ⟨kR, t1Y, b1Y, t2Y, b2Y, hasY, asdY⟩) := ⟨h1⟩
    clear h1 st1
    have HSF : Hd ((rS ⟨kR, t1F, b1F, t2F, b2F, hasF, asdF⟩).toArray = S) := ⟨by rw [HYF.out.s]; exact HSS.out⟩
    have HTF : Hd (rT ⟨kR, t1F, b1F, t2F, b2F, hasF, asdF⟩ = tk) := ⟨HYF.out.t.trans HTK.out⟩
    have HOF : Hd (rOk ⟨kR, t1F, b1F, t2F, b2F, hasF, asdF⟩ = true) := ⟨HYF.out.ok⟩
    have HSC : Hd ((rS ⟨kR, t1C, b1C, t2C, b2C, hasC, asdC⟩).toArray = S) := ⟨by rw [HYC.out.s]; exact HSS.out⟩
    have HTC : Hd (rT ⟨kR, t1C, b1C, t2C, b2C, hasC, asdC⟩ = tk) := ⟨HYC.out.t.trans HTK.out⟩
    have HOC : Hd (rOk ⟨kR, t1C, b1C, t2C, b2C, hasC, asdC⟩ = true) := ⟨HYC.out.ok⟩
    have HSB : Hd ((rS ⟨kR, t1B, b1B, t2B, b2B, hasB, asdB⟩).toArray = S) := ⟨by rw [HYB.out.s]; exact HSS.out⟩
    have HTB : Hd (rT ⟨kR, t1B, b1B, t2B, b2B, hasB, asdB⟩ = tk) := ⟨HYB.out.t.trans HTK.out⟩
    have HOB : Hd (rOk ⟨kR, t1B, b1B, t2B, b2B, hasB, asdB⟩ = true) := ⟨HYB.out.ok⟩
    have HSZ : Hd ((rS ⟨kR, t1Z, b1Z, t2Z, b2Z, hasZ, asdZ⟩).toArray = S) := ⟨by rw [HYZ.out.s]; exact HSS.out⟩
    have HTZ : Hd (rT ⟨kR, t1Z, b1Z, t2Z, b2Z, hasZ, asdZ⟩ = tk) := ⟨HYZ.out.t.trans HTK.out⟩
    have HOZ : Hd (rOk ⟨kR, t1Z, b1Z, t2Z, b2Z, hasZ, asdZ⟩ = true) := ⟨HYZ.out.ok⟩
    have HSY : Hd ((rS ⟨kR, t1Y, b1Y, t2Y, b2Y, hasY, asdY⟩).toArray = S) := ⟨by rw [HYY.out.s]; exact HSS.out⟩
    have HTY : Hd (rT ⟨kR, t1Y, b1Y, t2Y, b2Y, hasY, asdY⟩ = tk) := ⟨HYY.out.t.trans HTK.out⟩
    have HOY : Hd (rOk ⟨kR, t1Y, b1Y, t2Y, b2Y, hasY, asdY⟩ = true) := ⟨HYY.out.ok⟩
    have HMa : Hd (Small ⟨kR, t1F, b1F, t2F, b2F, hasF, asdF⟩ ∧ Small ⟨kR, t1C, b1C, t2C, b2C, hasC, asdC⟩ ∧ Small ⟨kR, t1B, b1B, t2B, b2B, hasB, asdB⟩ ∧ Small ⟨kR, t1Z, b1Z, t2Z, b2Z, hasZ, asdZ⟩ ∧ Small ⟨kR, t1Y, b1Y, t2Y, b2Y, hasY, asdY⟩) := ⟨by rw [← HMF.out]; exact small_fill R6.out.sm, by rw [← HMC.out]; exact small_cut R6.out.sm, by rw [← HMB.out]; exact small_back R6.out.sm, by rw [← HMZ.out, ← HMF.out]; exact small_cut (small_fill R6.out.sm), by rw [← HMY.out, ← HMF.out]; exact small_back (small_fill R6.out.sm)⟩
    obtain ⟨cr0, cr1, cr2, cr3, cr4, cr5, cr6⟩ := cells7 _ pR _ _ _ _ _ _ _ _ R6.out.box
    go_wp2_with fail
    have KK : Hd (∀ w', Below v9.heap.size v9 w' → (w'.cell? ⟨pR, 0, none⟩ = some (.string kR) ∧ w'.cell? ⟨pR, 1, none⟩ = some (.int .i64 t1R) ∧ w'.cell? ⟨pR, 2, none⟩ = some (.slice a1R n1R c1R) ∧ w'.cell? ⟨pR, 3, none⟩ = some (.int .i64 t2R) ∧ w'.cell? ⟨pR, 4, none⟩ = some (.slice a2R n2R c2R) ∧ w'.cell? ⟨pR, 5, none⟩ = some (.int .i64 hasR) ∧ w'.cell? ⟨pR, 6, none⟩ = some (.bool asdR))) := ⟨fun w' hb => R6.out.cells hb⟩
    have D0 : Hd (Below v9.heap.size v9 v9.drew) := ⟨(Below.refl _ v9).drew⟩
    go_region_held (fun w' => w'.cell? ⟨pR, 0, none⟩ = some (.string kR) ∧ w'.cell? ⟨pR, 1, none⟩ = some (.int .i64 t1R) ∧ w'.cell? ⟨pR, 2, none⟩ = some (.slice a1R n1R c1R) ∧ w'.cell? ⟨pR, 3, none⟩ = some (.int .i64 t2R) ∧ w'.cell? ⟨pR, 4, none⟩ = some (.slice a2R n2R c2R) ∧ w'.cell? ⟨pR, 5, none⟩ = some (.int .i64 hasR) ∧ w'.cell? ⟨pR, 6, none⟩ = some (.bool asdR)) (first | (with_reducible exact KK.out _ D7.out) | (with_reducible exact KK.out _ (Below.next D7.out (below_lit _ _))) | (with_reducible exact KK.out _ D6.out) | (with_reducible exact KK.out _ D5.out) | (with_reducible exact KK.out _ D4.out) | (with_reducible exact KK.out _ D3.out) | (with_reducible exact KK.out _ D2.out) | (with_reducible exact KK.out _ D1.out) | (with_reducible exact KK.out _ D0.out)) (first | (have G1 := D6; clear G1; go_at_call 15; refine (implBackRow_any kR t1F q6a q6m q6c t2F q6A q6M q6C hasF asdF b1F b2F _ R6.out.lk Q6_6.out.1 Q6_6.out.2 (by have := Q6_6.out.1.size; have := HMa.out.1.s1; simp only at this; omega) (by have := Q6_6.out.2.size; have := HMa.out.1.s2; simp only at this; omega) ⟨(K6.out.next D6.out).tabs⟩).mono ?_; rewrite [HMY.out]; rintro e u7 h9; obtain ⟨q7a, q7m, q7c, q7A, q7M, q7C, rfl, hn1, hn2, hA, _, hB⟩ := h9.at_; have D7 : Hd (Below v9.heap.size v9 u7) := ⟨Below.next D6.out hB⟩; have Q1_7 : Hd (CellAt u7 q1a q1m q1c b1F ∧ CellAt u7 q1A q1M q1C b2F) := ⟨Q1_6.out.1.below hB, Q1_6.out.2.below hB⟩; have Q2_7 : Hd (CellAt u7 q2a q2m q2c b1C ∧ CellAt u7 q2A q2M q2C b2C) := ⟨Q2_6.out.1.below hB, Q2_6.out.2.below hB⟩; have Q3_7 : Hd (CellAt u7 q3a q3m q3c b1B ∧ CellAt u7 q3A q3M q3C b2B) := ⟨Q3_6.out.1.below hB, Q3_6.out.2.below hB⟩; have Q4_7 : Hd (CellAt u7 q4a q4m q4c b1F ∧ CellAt u7 q4A q4M q4C b2F) := ⟨Q4_6.out.1.below hB, Q4_6.out.2.below hB⟩; have Q5_7 : Hd (CellAt u7 q5a q5m q5c b1Z ∧ CellAt u7 q5A q5M q5C b2Z) := ⟨Q5_6.out.1.below hB, Q5_6.out.2.below hB⟩; have Q6_7 : Hd (CellAt u7 q6a q6m q6c b1F ∧ CellAt u7 q6A q6M q6C b2F) := ⟨Q6_6.out.1.below hB, Q6_6.out.2.below hB⟩; have Q7_7 : Hd (CellAt u7 q7a q7m q7c b1Y ∧ CellAt u7 q7A q7M q7C b2Y) := ⟨hA.one.at_ hn1, hA.two.at_ hn2⟩; clear h9 hn1 hn2 hA hB) | (have G1 := D5; clear G1; go_at_call 13; refine (implFillRow_any kR t1R a1R n1R c1R t2R a2R n2R c2R hasR asdR b1R b2R _ R6.out.lk (R6.out.at1.below D5.out) (R6.out.at2.below D5.out) R6.out.l1 R6.out.l2 ⟨(K6.out.next D5.out).tabs⟩).mono ?_; rewrite [HMF.out]; rintro e u6 h9; obtain ⟨q6a, q6m, q6c, q6A, q6M, q6C, rfl, hn1, hn2, hA, _, hB⟩ := h9.at_; have D6 : Hd (Below v9.heap.size v9 u6) := ⟨Below.next D5.out hB⟩; have Q1_6 : Hd (CellAt u6 q1a q1m q1c b1F ∧ CellAt u6 q1A q1M q1C b2F) := ⟨Q1_5.out.1.below hB, Q1_5.out.2.below hB⟩; have Q2_6 : Hd (CellAt u6 q2a q2m q2c b1C ∧ CellAt u6 q2A q2M q2C b2C) := ⟨Q2_5.out.1.below hB, Q2_5.out.2.below hB⟩; have Q3_6 : Hd (CellAt u6 q3a q3m q3c b1B ∧ CellAt u6 q3A q3M q3C b2B) := ⟨Q3_5.out.1.below hB, Q3_5.out.2.below hB⟩; have Q4_6 : Hd (CellAt u6 q4a q4m q4c b1F ∧ CellAt u6 q4A q4M q4C b2F) := ⟨Q4_5.out.1.below hB, Q4_5.out.2.below hB⟩; have Q5_6 : Hd (CellAt u6 q5a q5m q5c b1Z ∧ CellAt u6 q5A q5M q5C b2Z) := ⟨Q5_5.out.1.below hB, Q5_5.out.2.below hB⟩; have Q6_6 : Hd (CellAt u6 q6a q6m q6c b1F ∧ CellAt u6 q6A q6M q6C b2F) := ⟨hA.one.at_ hn1, hA.two.at_ hn2⟩; clear h9 hn1 hn2 hA hB) | (have G1 := D4; clear G1; go_at_call 14; refine (implCutRow_any kR t1F q4a q4m q4c t2F q4A q4M q4C hasF asdF b1F b2F _ R6.out.lk Q4_4.out.1 Q4_4.out.2 (by have := Q4_4.out.1.size; have := HMa.out.1.s1; simp only at this; omega) (by have := Q4_4.out.2.size; have := HMa.out.1.s2; simp only at this; omega) ⟨(K6.out.next D4.out).tabs⟩).mono ?_; rewrite [HMZ.out]; rintro e u5 h9; obtain ⟨q5a, q5m, q5c, q5A, q5M, q5C, rfl, hn1, hn2, hA, _, hB⟩ := h9.at_; have D5 : Hd (Below v9.heap.size v9 u5) := ⟨Below.next D4.out hB⟩; have Q1_5 : Hd (CellAt u5 q1a q1m q1c b1F ∧ CellAt u5 q1A q1M q1C b2F) := ⟨Q1_4.out.1.below hB, Q1_4.out.2.below hB⟩; have Q2_5 : Hd (CellAt u5 q2a q2m q2c b1C ∧ CellAt u5 q2A q2M q2C b2C) := ⟨Q2_4.out.1.below hB, Q2_4.out.2.below hB⟩; have Q3_5 : Hd (CellAt u5 q3a q3m q3c b1B ∧ CellAt u5 q3A q3M q3C b2B) := ⟨Q3_4.out.1.below hB, Q3_4.out.2.below hB⟩; have Q4_5 : Hd (CellAt u5 q4a q4m q4c b1F ∧ CellAt u5 q4A q4M q4C b2F) := ⟨Q4_4.out.1.below hB, Q4_4.out.2.below hB⟩; have Q5_5 : Hd (CellAt u5 q5a q5m q5c b1Z ∧ CellAt u5 q5A q5M q5C b2Z) := ⟨hA.one.at_ hn1, hA.two.at_ hn2⟩; clear h9 hn1 hn2 hA hB) | (have G1 := D3; clear G1; go_at_call 13; refine (implFillRow_any kR t1R a1R n1R c1R t2R a2R n2R c2R hasR asdR b1R b2R _ R6.out.lk (R6.out.at1.below D3.out) (R6.out.at2.below D3.out) R6.out.l1 R6.out.l2 ⟨(K6.out.next D3.out).tabs⟩).mono ?_; rewrite [HMF.out]; rintro e u4 h9; obtain ⟨q4a, q4m, q4c, q4A, q4M, q4C, rfl, hn1, hn2, hA, _, hB⟩ := h9.at_; have D4 : Hd (Below v9.heap.size v9 u4) := ⟨Below.next D3.out hB⟩; have Q1_4 : Hd (CellAt u4 q1a q1m q1c b1F ∧ CellAt u4 q1A q1M q1C b2F) := ⟨Q1_3.out.1.below hB, Q1_3.out.2.below hB⟩; have Q2_4 : Hd (CellAt u4 q2a q2m q2c b1C ∧ CellAt u4 q2A q2M q2C b2C) := ⟨Q2_3.out.1.below hB, Q2_3.out.2.below hB⟩; have Q3_4 : Hd (CellAt u4 q3a q3m q3c b1B ∧ CellAt u4 q3A q3M q3C b2B) := ⟨Q3_3.out.1.below hB, Q3_3.out.2.below hB⟩; have Q4_4 : Hd (CellAt u4 q4a q4m q4c b1F ∧ CellAt u4 q4A q4M q4C b2F) := ⟨hA.one.at_ hn1, hA.two.at_ hn2⟩; clear h9 hn1 hn2 hA hB) | (have G1 := D2; clear G1; go_at_call 15; refine (implBackRow_any kR t1R a1R n1R c1R t2R a2R n2R c2R hasR asdR b1R b2R _ R6.out.lk (R6.out.at1.below D2.out) (R6.out.at2.below D2.out) R6.out.l1 R6.out.l2 ⟨(K6.out.next D2.out).tabs⟩).mono ?_; rewrite [HMB.out]; rintro e u3 h9; obtain ⟨q3a, q3m, q3c, q3A, q3M, q3C, rfl, hn1, hn2, hA, _, hB⟩ := h9.at_; have D3 : Hd (Below v9.heap.size v9 u3) := ⟨Below.next D2.out hB⟩; have Q1_3 : Hd (CellAt u3 q1a q1m q1c b1F ∧ CellAt u3 q1A q1M q1C b2F) := ⟨Q1_2.out.1.below hB, Q1_2.out.2.below hB⟩; have Q2_3 : Hd (CellAt u3 q2a q2m q2c b1C ∧ CellAt u3 q2A q2M q2C b2C) := ⟨Q2_2.out.1.below hB, Q2_2.out.2.below hB⟩; have Q3_3 : Hd (CellAt u3 q3a q3m q3c b1B ∧ CellAt u3 q3A q3M q3C b2B) := ⟨hA.one.at_ hn1, hA.two.at_ hn2⟩; clear h9 hn1 hn2 hA hB) | (have G1 := D1; clear G1; go_at_call 14; refine (implCutRow_any kR t1R a1R n1R c1R t2R a2R n2R c2R hasR asdR b1R b2R _ R6.out.lk (R6.out.at1.below D1.out) (R6.out.at2.below D1.out) R6.out.l1 R6.out.l2 ⟨(K6.out.next D1.out).tabs⟩).mono ?_; rewrite [HMC.out]; rintro e u2 h9; obtain ⟨q2a, q2m, q2c, q2A, q2M, q2C, rfl, hn1, hn2, hA, _, hB⟩ := h9.at_; have D2 : Hd (Below v9.heap.size v9 u2) := ⟨Below.next D1.out hB⟩; have Q1_2 : Hd (CellAt u2 q1a q1m q1c b1F ∧ CellAt u2 q1A q1M q1C b2F) := ⟨Q1_1.out.1.below hB, Q1_1.out.2.below hB⟩; have Q2_2 : Hd (CellAt u2 q2a q2m q2c b1C ∧ CellAt u2 q2A q2M q2C b2C) := ⟨hA.one.at_ hn1, hA.two.at_ hn2⟩; clear h9 hn1 hn2 hA hB) | (go_at_call 13; refine (implFillRow_any kR t1R a1R n1R c1R t2R a2R n2R c2R hasR asdR b1R b2R _ R6.out.lk (R6.out.at1.below D0.out) (R6.out.at2.below D0.out) R6.out.l1 R6.out.l2 ⟨(K6.out.next D0.out).tabs⟩).mono ?_; rewrite [HMF.out]; rintro e u1 h9; obtain ⟨q1a, q1m, q1c, q1A, q1M, q1C, rfl, hn1, hn2, hA, _, hB⟩ := h9.at_; have D1 : Hd (Below v9.heap.size v9 u1) := ⟨Below.next D0.out hB⟩; have Q1_1 : Hd (CellAt u1 q1a q1m q1c b1F ∧ CellAt u1 q1A q1M q1C b2F) := ⟨hA.one.at_ hn1, hA.two.at_ hn2⟩; clear h9 hn1 hn2 hA hB))
    clear cr0 cr1 cr2 cr3 cr4 cr5 cr6
    have K7 : Hd (CStays w a0 len0 bs (u7.alloc (.cells #[.string kR, .int .i64 t1F, .slice q1a q1m q1c, .int .i64 t2F, .slice q1A q1M q1C, .int .i64 hasF, .bool asdF, .string kR, .int .i64 t1C, .slice q2a q2m q2c, .int .i64 t2C, .slice q2A q2M q2C, .int .i64 hasC, .bool asdC, .string kR, .int .i64 t1B, .slice q3a q3m q3c, .int .i64 t2B, .slice q3A q3M q3C, .int .i64 hasB, .bool asdB, .string kR, .int .i64 t1Z, .slice q5a q5m q5c, .int .i64 t2Z, .slice q5A q5M q5C, .int .i64 hasZ, .bool asdZ, .string kR, .int .i64 t1Y, .slice q7a q7m q7c, .int .i64 t2Y, .slice q7A q7M q7C, .int .i64 hasY, .bool asdY] 29))) := ⟨(K6.out.next D7.out).next (below_lit u7 _)⟩
    have R7 : Hd (RBx pR kR t1R a1R n1R c1R b1R t2R a2R n2R c2R b2R hasR asdR (u7.alloc (.cells #[.string kR, .int .i64 t1F, .slice q1a q1m q1c, .int .i64 t2F, .slice q1A q1M q1C, .int .i64 hasF, .bool asdF, .string kR, .int .i64 t1C, .slice q2a q2m q2c, .int .i64 t2C, .slice q2A q2M q2C, .int .i64 hasC, .bool asdC, .string kR, .int .i64 t1B, .slice q3a q3m q3c, .int .i64 t2B, .slice q3A q3M q3C, .int .i64 hasB, .bool asdB, .string kR, .int .i64 t1Z, .slice q5a q5m q5c, .int .i64 t2Z, .slice q5A q5M q5C, .int .i64 hasZ, .bool asdZ, .string kR, .int .i64 t1Y, .slice q7a q7m q7c, .int .i64 t2Y, .slice q7A q7M q7C, .int .i64 hasY, .bool asdY] 29))) := ⟨(R6.out.below D7.out).below (below_lit u7 _)⟩
    have AB7 : Hd ((u7.alloc (.cells #[.string kR, .int .i64 t1F, .slice q1a q1m q1c, .int .i64 t2F, .slice q1A q1M q1C, .int .i64 hasF, .bool asdF, .string kR, .int .i64 t1C, .slice q2a q2m q2c, .int .i64 t2C, .slice q2A q2M q2C, .int .i64 hasC, .bool asdC, .string kR, .int .i64 t1B, .slice q3a q3m q3c, .int .i64 t2B, .slice q3A q3M q3C, .int .i64 hasB, .bool asdB, .string kR, .int .i64 t1Z, .slice q5a q5m q5c, .int .i64 t2Z, .slice q5A q5M q5C, .int .i64 hasZ, .bool asdZ, .string kR, .int .i64 t1Y, .slice q7a q7m q7c, .int .i64 t2Y, .slice q7A q7M q7C, .int .i64 hasY, .bool asdY] 29)).heap[u7.heap.size]? = some (.cells #[.string kR, .int .i64 t1F, .slice q1a q1m q1c, .int .i64 t2F, .slice q1A q1M q1C, .int .i64 hasF, .bool asdF, .string kR, .int .i64 t1C, .slice q2a q2m q2c, .int .i64 t2C, .slice q2A q2M q2C, .int .i64 hasC, .bool asdC, .string kR, .int .i64 t1B, .slice q3a q3m q3c, .int .i64 t2B, .slice q3A q3M q3C, .int .i64 hasB, .bool asdB, .string kR, .int .i64 t1Z, .slice q5a q5m q5c, .int .i64 t2Z, .slice q5A q5M q5C, .int .i64 hasZ, .bool asdZ, .string kR, .int .i64 t1Y, .slice q7a q7m q7c, .int .i64 t2Y, .slice q7A q7M q7C, .int .i64 hasY, .bool asdY] 29 (0, 0))) := ⟨alloc_new u7 _ rfl⟩
    have CAF7 : Hd (CellAt (u7.alloc (.cells #[.string kR, .int .i64 t1F, .slice q1a q1m q1c, .int .i64 t2F, .slice q1A q1M q1C, .int .i64 hasF, .bool asdF, .string kR, .int .i64 t1C, .slice q2a q2m q2c, .int .i64 t2C, .slice q2A q2M q2C, .int .i64 hasC, .bool asdC, .string kR, .int .i64 t1B, .slice q3a q3m q3c, .int .i64 t2B, .slice q3A q3M q3C, .int .i64 hasB, .bool asdB, .string kR, .int .i64 t1Z, .slice q5a q5m q5c, .int .i64 t2Z, .slice q5A q5M q5C, .int .i64 hasZ, .bool asdZ, .string kR, .int .i64 t1Y, .slice q7a q7m q7c, .int .i64 t2Y, .slice q7A q7M q7C, .int .i64 hasY, .bool asdY] 29)) q1a q1m q1c b1F ∧ CellAt (u7.alloc (.cells #[.string kR, .int .i64 t1F, .slice q1a q1m q1c, .int .i64 t2F, .slice q1A q1M q1C, .int .i64 hasF, .bool asdF, .string kR, .int .i64 t1C, .slice q2a q2m q2c, .int .i64 t2C, .slice q2A q2M q2C, .int .i64 hasC, .bool asdC, .string kR, .int .i64 t1B, .slice q3a q3m q3c, .int .i64 t2B, .slice q3A q3M q3C, .int .i64 hasB, .bool asdB, .string kR, .int .i64 t1Z, .slice q5a q5m q5c, .int .i64 t2Z, .slice q5A q5M q5C, .int .i64 hasZ, .bool asdZ, .string kR, .int .i64 t1Y, .slice q7a q7m q7c, .int .i64 t2Y, .slice q7A q7M q7C, .int .i64 hasY, .bool asdY] 29)) q1A q1M q1C b2F) := ⟨Q1_7.out.1.below (below_lit u7 _), Q1_7.out.2.below (below_lit u7 _)⟩
    have HLF : Hd (q1m ≤ 1048576 ∧ q1M ≤ 1048576) := ⟨by have := Q1_7.out.1.size; have := HMa.out.1.s1; simp only at this; omega, by have := Q1_7.out.2.size; have := HMa.out.1.s2; simp only at this; omega⟩
    have CAC7 : Hd (CellAt (u7.alloc (.cells #[.string kR, .int .i64 t1F, .slice q1a q1m q1c, .int .i64 t2F, .slice q1A q1M q1C, .int .i64 hasF, .bool asdF, .string kR, .int .i64 t1C, .slice q2a q2m q2c, .int .i64 t2C, .slice q2A q2M q2C, .int .i64 hasC, .bool asdC, .string kR, .int .i64 t1B, .slice q3a q3m q3c, .int .i64 t2B, .slice q3A q3M q3C, .int .i64 hasB, .bool asdB, .string kR, .int .i64 t1Z, .slice q5a q5m q5c, .int .i64 t2Z, .slice q5A q5M q5C, .int .i64 hasZ, .bool asdZ, .string kR, .int .i64 t1Y, .slice q7a q7m q7c, .int .i64 t2Y, .slice q7A q7M q7C, .int .i64 hasY, .bool asdY] 29)) q2a q2m q2c b1C ∧ CellAt (u7.alloc (.cells #[.string kR, .int .i64 t1F, .slice q1a q1m q1c, .int .i64 t2F, .slice q1A q1M q1C, .int .i64 hasF, .bool asdF, .string kR, .int .i64 t1C, .slice q2a q2m q2c, .int .i64 t2C, .slice q2A q2M q2C, .int .i64 hasC, .bool asdC, .string kR, .int .i64 t1B, .slice q3a q3m q3c, .int .i64 t2B, .slice q3A q3M q3C, .int .i64 hasB, .bool asdB, .string kR, .int .i64 t1Z, .slice q5a q5m q5c, .int .i64 t2Z, .slice q5A q5M q5C, .int .i64 hasZ, .bool asdZ, .string kR, .int .i64 t1Y, .slice q7a q7m q7c, .int .i64 t2Y, .slice q7A q7M q7C, .int .i64 hasY, .bool asdY] 29)) q2A q2M q2C b2C) := ⟨Q2_7.out.1.below (below_lit u7 _), Q2_7.out.2.below (below_lit u7 _)⟩
    have HLC : Hd (q2m ≤ 1048576 ∧ q2M ≤ 1048576) := ⟨by have := Q2_7.out.1.size; have := HMa.out.2.1.s1; simp only at this; omega, by have := Q2_7.out.2.size; have := HMa.out.2.1.s2; simp only at this; omega⟩
    have CAB7 : Hd (CellAt (u7.alloc (.cells #[.string kR, .int .i64 t1F, .slice q1a q1m q1c, .int .i64 t2F, .slice q1A q1M q1C, .int .i64 hasF, .bool asdF, .string kR, .int .i64 t1C, .slice q2a q2m q2c, .int .i64 t2C, .slice q2A q2M q2C, .int .i64 hasC, .bool asdC, .string kR, .int .i64 t1B, .slice q3a q3m q3c, .int .i64 t2B, .slice q3A q3M q3C, .int .i64 hasB, .bool asdB, .string kR, .int .i64 t1Z, .slice q5a q5m q5c, .int .i64 t2Z, .slice q5A q5M q5C, .int .i64 hasZ, .bool asdZ, .string kR, .int .i64 t1Y, .slice q7a q7m q7c, .int .i64 t2Y, .slice q7A q7M q7C, .int .i64 hasY, .bool asdY] 29)) q3a q3m q3c b1B ∧ CellAt (u7.alloc (.cells #[.string kR, .int .i64 t1F, .slice q1a q1m q1c, .int .i64 t2F, .slice q1A q1M q1C, .int .i64 hasF, .bool asdF, .string kR, .int .i64 t1C, .slice q2a q2m q2c, .int .i64 t2C, .slice q2A q2M q2C, .int .i64 hasC, .bool asdC, .string kR, .int .i64 t1B, .slice q3a q3m q3c, .int .i64 t2B, .slice q3A q3M q3C, .int .i64 hasB, .bool asdB, .string kR, .int .i64 t1Z, .slice q5a q5m q5c, .int .i64 t2Z, .slice q5A q5M q5C, .int .i64 hasZ, .bool asdZ, .string kR, .int .i64 t1Y, .slice q7a q7m q7c, .int .i64 t2Y, .slice q7A q7M q7C, .int .i64 hasY, .bool asdY] 29)) q3A q3M q3C b2B) := ⟨Q3_7.out.1.below (below_lit u7 _), Q3_7.out.2.below (below_lit u7 _)⟩
    have HLB : Hd (q3m ≤ 1048576 ∧ q3M ≤ 1048576) := ⟨by have := Q3_7.out.1.size; have := HMa.out.2.2.1.s1; simp only at this; omega, by have := Q3_7.out.2.size; have := HMa.out.2.2.1.s2; simp only at this; omega⟩
    have CAZ7 : Hd (CellAt (u7.alloc (.cells #[.string kR, .int .i64 t1F, .slice q1a q1m q1c, .int .i64 t2F, .slice q1A q1M q1C, .int .i64 hasF, .bool asdF, .string kR, .int .i64 t1C, .slice q2a q2m q2c, .int .i64 t2C, .slice q2A q2M q2C, .int .i64 hasC, .bool asdC, .string kR, .int .i64 t1B, .slice q3a q3m q3c, .int .i64 t2B, .slice q3A q3M q3C, .int .i64 hasB, .bool asdB, .string kR, .int .i64 t1Z, .slice q5a q5m q5c, .int .i64 t2Z, .slice q5A q5M q5C, .int .i64 hasZ, .bool asdZ, .string kR, .int .i64 t1Y, .slice q7a q7m q7c, .int .i64 t2Y, .slice q7A q7M q7C, .int .i64 hasY, .bool asdY] 29)) q5a q5m q5c b1Z ∧ CellAt (u7.alloc (.cells #[.string kR, .int .i64 t1F, .slice q1a q1m q1c, .int .i64 t2F, .slice q1A q1M q1C, .int .i64 hasF, .bool asdF, .string kR, .int .i64 t1C, .slice q2a q2m q2c, .int .i64 t2C, .slice q2A q2M q2C, .int .i64 hasC, .bool asdC, .string kR, .int .i64 t1B, .slice q3a q3m q3c, .int .i64 t2B, .slice q3A q3M q3C, .int .i64 hasB, .bool asdB, .string kR, .int .i64 t1Z, .slice q5a q5m q5c, .int .i64 t2Z, .slice q5A q5M q5C, .int .i64 hasZ, .bool asdZ, .string kR, .int .i64 t1Y, .slice q7a q7m q7c, .int .i64 t2Y, .slice q7A q7M q7C, .int .i64 hasY, .bool asdY] 29)) q5A q5M q5C b2Z) := ⟨Q5_7.out.1.below (below_lit u7 _), Q5_7.out.2.below (below_lit u7 _)⟩
    have HLZ : Hd (q5m ≤ 1048576 ∧ q5M ≤ 1048576) := ⟨by have := Q5_7.out.1.size; have := HMa.out.2.2.2.1.s1; simp only at this; omega, by have := Q5_7.out.2.size; have := HMa.out.2.2.2.1.s2; simp only at this; omega⟩
    have CAY7 : Hd (CellAt (u7.alloc (.cells #[.string kR, .int .i64 t1F, .slice q1a q1m q1c, .int .i64 t2F, .slice q1A q1M q1C, .int .i64 hasF, .bool asdF, .string kR, .int .i64 t1C, .slice q2a q2m q2c, .int .i64 t2C, .slice q2A q2M q2C, .int .i64 hasC, .bool asdC, .string kR, .int .i64 t1B, .slice q3a q3m q3c, .int .i64 t2B, .slice q3A q3M q3C, .int .i64 hasB, .bool asdB, .string kR, .int .i64 t1Z, .slice q5a q5m q5c, .int .i64 t2Z, .slice q5A q5M q5C, .int .i64 hasZ, .bool asdZ, .string kR, .int .i64 t1Y, .slice q7a q7m q7c, .int .i64 t2Y, .slice q7A q7M q7C, .int .i64 hasY, .bool asdY] 29)) q7a q7m q7c b1Y ∧ CellAt (u7.alloc (.cells #[.string kR, .int .i64 t1F, .slice q1a q1m q1c, .int .i64 t2F, .slice q1A q1M q1C, .int .i64 hasF, .bool asdF, .string kR, .int .i64 t1C, .slice q2a q2m q2c, .int .i64 t2C, .slice q2A q2M q2C, .int .i64 hasC, .bool asdC, .string kR, .int .i64 t1B, .slice q3a q3m q3c, .int .i64 t2B, .slice q3A q3M q3C, .int .i64 hasB, .bool asdB, .string kR, .int .i64 t1Z, .slice q5a q5m q5c, .int .i64 t2Z, .slice q5A q5M q5C, .int .i64 hasZ, .bool asdZ, .string kR, .int .i64 t1Y, .slice q7a q7m q7c, .int .i64 t2Y, .slice q7A q7M q7C, .int .i64 hasY, .bool asdY] 29)) q7A q7M q7C b2Y) := ⟨Q7_7.out.1.below (below_lit u7 _), Q7_7.out.2.below (below_lit u7 _)⟩
    have HLY : Hd (q7m ≤ 1048576 ∧ q7M ≤ 1048576) := ⟨by have := Q7_7.out.1.size; have := HMa.out.2.2.2.2.s1; simp only at this; omega, by have := Q7_7.out.2.size; have := HMa.out.2.2.2.2.s2; simp only at this; omega⟩
    have HKR : Hd (kR.size ≤ 1048576) := ⟨R6.out.lk⟩
    clear KK K6 R6 D0 D1 D2 D3 D4 D5 D6 D7 Q1_1 Q1_2 Q1_3 Q1_4 Q1_5 Q1_6 Q1_7 Q2_2 Q2_3 Q2_4 Q2_5 Q2_6 Q2_7 Q3_3 Q3_4 Q3_5 Q3_6 Q3_7 Q4_4 Q4_5 Q4_6 Q4_7 Q5_5 Q5_6 Q5_7 Q6_6 Q6_7 Q7_7
    generalize hL : u7.heap.size = L at *
    clear hL
    have PK : ∃ U7, U7 = (u7.alloc (.cells #[.string kR, .int .i64 t1F, .slice q1a q1m q1c, .int .i64 t2F, .slice q1A q1M q1C, .int .i64 hasF, .bool asdF, .string kR, .int .i64 t1C, .slice q2a q2m q2c, .int .i64 t2C, .slice q2A q2M q2C, .int .i64 hasC, .bool asdC, .string kR, .int .i64 t1B, .slice q3a q3m q3c, .int .i64 t2B, .slice q3A q3M q3C, .int .i64 hasB, .bool asdB, .string kR, .int .i64 t1Z, .slice q5a q5m q5c, .int .i64 t2Z, .slice q5A q5M q5C, .int .i64 hasZ, .bool asdZ, .string kR, .int .i64 t1Y, .slice q7a q7m q7c, .int .i64 t2Y, .slice q7A q7M q7C, .int .i64 hasY, .bool asdY] 29)) ∧ (Hd (CStays w a0 len0 bs U7)) ∧ (Hd (RBx pR kR t1R a1R n1R c1R b1R t2R a2R n2R c2R b2R hasR asdR U7)) ∧ (Hd (U7.heap[L]? = some (.cells #[.string kR, .int .i64 t1F, .slice q1a q1m q1c, .int .i64 t2F, .slice q1A q1M q1C, .int .i64 hasF, .bool asdF, .string kR, .int .i64 t1C, .slice q2a q2m q2c, .int .i64 t2C, .slice q2A q2M q2C, .int .i64 hasC, .bool asdC, .string kR, .int .i64 t1B, .slice q3a q3m q3c, .int .i64 t2B, .slice q3A q3M q3C, .int .i64 hasB, .bool asdB, .string kR, .int .i64 t1Z, .slice q5a q5m q5c, .int .i64 t2Z, .slice q5A q5M q5C, .int .i64 hasZ, .bool asdZ, .string kR, .int .i64 t1Y, .slice q7a q7m q7c, .int .i64 t2Y, .slice q7A q7M q7C, .int .i64 hasY, .bool asdY] 29 (0, 0)))) ∧ (Hd (CellAt U7 q1a q1m q1c b1F ∧ CellAt U7 q1A q1M q1C b2F)) ∧ (Hd (CellAt U7 q2a q2m q2c b1C ∧ CellAt U7 q2A q2M q2C b2C)) ∧ (Hd (CellAt U7 q3a q3m q3c b1B ∧ CellAt U7 q3A q3M q3C b2B)) ∧ (Hd (CellAt U7 q5a q5m q5c b1Z ∧ CellAt U7 q5A q5M q5C b2Z)) ∧ (Hd (CellAt U7 q7a q7m q7c b1Y ∧ CellAt U7 q7A q7M q7C b2Y)) := ⟨_, rfl, K7, R7, AB7, CAF7, CAC7, CAB7, CAZ7, CAY7⟩
    clear K7 R7 AB7 CAF7 CAC7 CAB7 CAZ7 CAY7
    obtain ⟨U7, hU, K7, R7, AB7, CAF7, CAC7, CAB7, CAZ7, CAY7⟩ := PK
    rewrite [← hU]
    clear hU
    have sf : ((⟨S⟩ : ByteArray).toList != (⟨S⟩ : ByteArray).toList) = false := by simp
    have tkf : (tk != tk) = false := by simp
    have krf : (kR.toList != kR.toList) = false := by simp
    go_wp2_with fail
    refine wp_loop_rounds 6 ?_
    rewrite [rounds_succ]
    have z0 : U7.cell? ⟨L, 0, none⟩ = some (.string kR) := arr_cell AB7.out (Below.refl _ U7) 0 _ rfl
    have z1 : U7.cell? ⟨L, 1, none⟩ = some (.int .i64 t1F) := arr_cell AB7.out (Below.refl _ U7) 1 _ rfl
    have z2 : U7.cell? ⟨L, 2, none⟩ = some (.slice q1a q1m q1c) := arr_cell AB7.out (Below.refl _ U7) 2 _ rfl
    have z3 : U7.cell? ⟨L, 3, none⟩ = some (.int .i64 t2F) := arr_cell AB7.out (Below.refl _ U7) 3 _ rfl
    have z4 : U7.cell? ⟨L, 4, none⟩ = some (.slice q1A q1M q1C) := arr_cell AB7.out (Below.refl _ U7) 4 _ rfl
    have z5 : U7.cell? ⟨L, 5, none⟩ = some (.int .i64 hasF) := arr_cell AB7.out (Below.refl _ U7) 5 _ rfl
    have z6 : U7.cell? ⟨L, 6, none⟩ = some (.bool asdF) := arr_cell AB7.out (Below.refl _ U7) 6 _ rfl
    go_wp2_with fail
    clear z0 z1 z2 z3 z4 z5 z6
    refine (implRowText_any kR t1F q1a q1m q1c t2F q1A q1M q1C hasF asdF b1F b2F _ CAF7.out.1 CAF7.out.2 HLF.out.1 HLF.out.2 ⟨K7.out.tabs⟩).mono ?_
    rintro e v10 ⟨rfl, hB⟩
    rewrite [HSF.out, HTF.out]
    have K8 : Hd (CStays w a0 len0 bs v10) := ⟨K7.out.next hB⟩
    have R8 : Hd (RBx pR kR t1R a1R n1R c1R b1R t2R a2R n2R c2R b2R hasR asdR v10) := ⟨R7.out.below hB⟩
    have CAF8 : Hd (CellAt v10 q1a q1m q1c b1F ∧ CellAt v10 q1A q1M q1C b2F) := ⟨⟨CAF7.out.1.below hB, CAF7.out.2.below hB⟩⟩
    have CAC8 : Hd (CellAt v10 q2a q2m q2c b1C ∧ CellAt v10 q2A q2M q2C b2C) := ⟨⟨CAC7.out.1.below hB, CAC7.out.2.below hB⟩⟩
    have CAB8 : Hd (CellAt v10 q3a q3m q3c b1B ∧ CellAt v10 q3A q3M q3C b2B) := ⟨⟨CAB7.out.1.below hB, CAB7.out.2.below hB⟩⟩
    have CAZ8 : Hd (CellAt v10 q5a q5m q5c b1Z ∧ CellAt v10 q5A q5M q5C b2Z) := ⟨⟨CAZ7.out.1.below hB, CAZ7.out.2.below hB⟩⟩
    have CAY8 : Hd (CellAt v10 q7a q7m q7c b1Y ∧ CellAt v10 q7A q7M q7C b2Y) := ⟨⟨CAY7.out.1.below hB, CAY7.out.2.below hB⟩⟩
    have AB8 : Hd (v10.heap[L]? = some (.cells #[.string kR, .int .i64 t1F, .slice q1a q1m q1c, .int .i64 t2F, .slice q1A q1M q1C, .int .i64 hasF, .bool asdF, .string kR, .int .i64 t1C, .slice q2a q2m q2c, .int .i64 t2C, .slice q2A q2M q2C, .int .i64 hasC, .bool asdC, .string kR, .int .i64 t1B, .slice q3a q3m q3c, .int .i64 t2B, .slice q3A q3M q3C, .int .i64 hasB, .bool asdB, .string kR, .int .i64 t1Z, .slice q5a q5m q5c, .int .i64 t2Z, .slice q5A q5M q5C, .int .i64 hasZ, .bool asdZ, .string kR, .int .i64 t1Y, .slice q7a q7m q7c, .int .i64 t2Y, .slice q7A q7M q7C, .int .i64 hasY, .bool asdY] 29 (0, 0))) := ⟨(hB.block _ (lt_of_block AB7.out)).trans AB7.out⟩
    clear K7 R7 CAF7 CAC7 CAB7 CAZ7 CAY7 AB7
    clear hB
    have z0 : v10.cell? ⟨L, 0, none⟩ = some (.string kR) := arr_cell AB8.out (Below.refl _ v10) 0 _ rfl
    have z1 : v10.cell? ⟨L, 1, none⟩ = some (.int .i64 t1F) := arr_cell AB8.out (Below.refl _ v10) 1 _ rfl
    have z2 : v10.cell? ⟨L, 2, none⟩ = some (.slice q1a q1m q1c) := arr_cell AB8.out (Below.refl _ v10) 2 _ rfl
    have z3 : v10.cell? ⟨L, 3, none⟩ = some (.int .i64 t2F) := arr_cell AB8.out (Below.refl _ v10) 3 _ rfl
    have z4 : v10.cell? ⟨L, 4, none⟩ = some (.slice q1A q1M q1C) := arr_cell AB8.out (Below.refl _ v10) 4 _ rfl
    have z5 : v10.cell? ⟨L, 5, none⟩ = some (.int .i64 hasF) := arr_cell AB8.out (Below.refl _ v10) 5 _ rfl
    have z6 : v10.cell? ⟨L, 6, none⟩ = some (.bool asdF) := arr_cell AB8.out (Below.refl _ v10) 6 _ rfl
    obtain ⟨cr0, _, _, _, _, _, _⟩ := cells7 _ pR _ _ _ _ _ _ _ _ R8.out.box
    go_wp2_with fail
    have KK : Hd (∀ w', Below v10.heap.size v10 w' → ((w'.cell? ⟨L, 0, none⟩ = some (.string kR) ∧ w'.cell? ⟨L, 1, none⟩ = some (.int .i64 t1F) ∧ w'.cell? ⟨L, 2, none⟩ = some (.slice q1a q1m q1c) ∧ w'.cell? ⟨L, 3, none⟩ = some (.int .i64 t2F) ∧ w'.cell? ⟨L, 4, none⟩ = some (.slice q1A q1M q1C) ∧ w'.cell? ⟨L, 5, none⟩ = some (.int .i64 hasF) ∧ w'.cell? ⟨L, 6, none⟩ = some (.bool asdF)) ∧ w'.cell? ⟨pR, 0, none⟩ = some (.string kR))) := ⟨fun w' hb => ⟨⟨arr_cell AB8.out hb 0 _ rfl, arr_cell AB8.out hb 1 _ rfl, arr_cell AB8.out hb 2 _ rfl, arr_cell AB8.out hb 3 _ rfl, arr_cell AB8.out hb 4 _ rfl, arr_cell AB8.out hb 5 _ rfl, arr_cell AB8.out hb 6 _ rfl⟩, (R8.out.cells hb).1⟩⟩
    have D0 : Hd (Below v10.heap.size v10 v10.drew) := ⟨(Below.refl _ v10).drew⟩
    go_region_held (fun w' => (w'.cell? ⟨L, 0, none⟩ = some (.string kR) ∧ w'.cell? ⟨L, 1, none⟩ = some (.int .i64 t1F) ∧ w'.cell? ⟨L, 2, none⟩ = some (.slice q1a q1m q1c) ∧ w'.cell? ⟨L, 3, none⟩ = some (.int .i64 t2F) ∧ w'.cell? ⟨L, 4, none⟩ = some (.slice q1A q1M q1C) ∧ w'.cell? ⟨L, 5, none⟩ = some (.int .i64 hasF) ∧ w'.cell? ⟨L, 6, none⟩ = some (.bool asdF)) ∧ w'.cell? ⟨pR, 0, none⟩ = some (.string kR)) (first | (with_reducible exact KK.out _ D1.out) | (with_reducible exact KK.out _ D0.out)) (first | (go_at_call 11; refine (implRowOk_any kR t1F q1a q1m q1c t2F q1A q1M q1C hasF asdF b1F b2F _ HKR.out (CAF8.out.1.below D0.out) (CAF8.out.2.below D0.out) HLF.out.1 HLF.out.2 ⟨(K8.out.next D0.out).tabs⟩).mono ?_; rintro e u1 ⟨rfl, hB⟩; rewrite [HOF.out]; have D1 : Hd (Below v10.heap.size v10 u1) := ⟨Below.next D0.out hB⟩; clear hB))
    clear z0 z1 z2 z3 z4 z5 z6
    clear cr0
    have K9 : Hd (CStays w a0 len0 bs u1) := ⟨K8.out.next D1.out⟩
    have R9 : Hd (RBx pR kR t1R a1R n1R c1R b1R t2R a2R n2R c2R b2R hasR asdR u1) := ⟨R8.out.below D1.out⟩
    have CAF9 : Hd (CellAt u1 q1a q1m q1c b1F ∧ CellAt u1 q1A q1M q1C b2F) := ⟨⟨CAF8.out.1.below D1.out, CAF8.out.2.below D1.out⟩⟩
    have CAC9 : Hd (CellAt u1 q2a q2m q2c b1C ∧ CellAt u1 q2A q2M q2C b2C) := ⟨⟨CAC8.out.1.below D1.out, CAC8.out.2.below D1.out⟩⟩
    have CAB9 : Hd (CellAt u1 q3a q3m q3c b1B ∧ CellAt u1 q3A q3M q3C b2B) := ⟨⟨CAB8.out.1.below D1.out, CAB8.out.2.below D1.out⟩⟩
    have CAZ9 : Hd (CellAt u1 q5a q5m q5c b1Z ∧ CellAt u1 q5A q5M q5C b2Z) := ⟨⟨CAZ8.out.1.below D1.out, CAZ8.out.2.below D1.out⟩⟩
    have CAY9 : Hd (CellAt u1 q7a q7m q7c b1Y ∧ CellAt u1 q7A q7M q7C b2Y) := ⟨⟨CAY8.out.1.below D1.out, CAY8.out.2.below D1.out⟩⟩
    have AB9 : Hd (u1.heap[L]? = some (.cells #[.string kR, .int .i64 t1F, .slice q1a q1m q1c, .int .i64 t2F, .slice q1A q1M q1C, .int .i64 hasF, .bool asdF, .string kR, .int .i64 t1C, .slice q2a q2m q2c, .int .i64 t2C, .slice q2A q2M q2C, .int .i64 hasC, .bool asdC, .string kR, .int .i64 t1B, .slice q3a q3m q3c, .int .i64 t2B, .slice q3A q3M q3C, .int .i64 hasB, .bool asdB, .string kR, .int .i64 t1Z, .slice q5a q5m q5c, .int .i64 t2Z, .slice q5A q5M q5C, .int .i64 hasZ, .bool asdZ, .string kR, .int .i64 t1Y, .slice q7a q7m q7c, .int .i64 t2Y, .slice q7A q7M q7C, .int .i64 hasY, .bool asdY] 29 (0, 0))) := ⟨(D1.out.block _ (lt_of_block AB8.out)).trans AB8.out⟩
    clear K8 R8 CAF8 CAC8 CAB8 CAZ8 CAY8 AB8
    clear KK D0 D1
    generalize hu : u1 = v11 at *
    clear hu
    go_wp2_with fail
    rewrite [rounds_succ]
    have z0 : v11.cell? ⟨L, 7, none⟩ = some (.string kR) := arr_cell AB9.out (Below.refl _ v11) 7 _ rfl
    have z1 : v11.cell? ⟨L, 8, none⟩ = some (.int .i64 t1C) := arr_cell AB9.out (Below.refl _ v11) 8 _ rfl
    have z2 : v11.cell? ⟨L, 9, none⟩ = some (.slice q2a q2m q2c) := arr_cell AB9.out (Below.refl _ v11) 9 _ rfl
    have z3 : v11.cell? ⟨L, 10, none⟩ = some (.int .i64 t2C) := arr_cell AB9.out (Below.refl _ v11) 10 _ rfl
    have z4 : v11.cell? ⟨L, 11, none⟩ = some (.slice q2A q2M q2C) := arr_cell AB9.out (Below.refl _ v11) 11 _ rfl
    have z5 : v11.cell? ⟨L, 12, none⟩ = some (.int .i64 hasC) := arr_cell AB9.out (Below.refl _ v11) 12 _ rfl
    have z6 : v11.cell? ⟨L, 13, none⟩ = some (.bool asdC) := arr_cell AB9.out (Below.refl _ v11) 13 _ rfl
    go_wp2_with fail
    clear z0 z1 z2 z3 z4 z5 z6
    refine (implRowText_any kR t1C q2a q2m q2c t2C q2A q2M q2C hasC asdC b1C b2C _ CAC9.out.1 CAC9.out.2 HLC.out.1 HLC.out.2 ⟨K9.out.tabs⟩).mono ?_
    rintro e v12 ⟨rfl, hB⟩
    rewrite [HSC.out, HTC.out]
    have K10 : Hd (CStays w a0 len0 bs v12) := ⟨K9.out.next hB⟩
    have R10 : Hd (RBx pR kR t1R a1R n1R c1R b1R t2R a2R n2R c2R b2R hasR asdR v12) := ⟨R9.out.below hB⟩
    have CAF10 : Hd (CellAt v12 q1a q1m q1c b1F ∧ CellAt v12 q1A q1M q1C b2F) := ⟨⟨CAF9.out.1.below hB, CAF9.out.2.below hB⟩⟩
    have CAC10 : Hd (CellAt v12 q2a q2m q2c b1C ∧ CellAt v12 q2A q2M q2C b2C) := ⟨⟨CAC9.out.1.below hB, CAC9.out.2.below hB⟩⟩
    have CAB10 : Hd (CellAt v12 q3a q3m q3c b1B ∧ CellAt v12 q3A q3M q3C b2B) := ⟨⟨CAB9.out.1.below hB, CAB9.out.2.below hB⟩⟩
    have CAZ10 : Hd (CellAt v12 q5a q5m q5c b1Z ∧ CellAt v12 q5A q5M q5C b2Z) := ⟨⟨CAZ9.out.1.below hB, CAZ9.out.2.below hB⟩⟩
    have CAY10 : Hd (CellAt v12 q7a q7m q7c b1Y ∧ CellAt v12 q7A q7M q7C b2Y) := ⟨⟨CAY9.out.1.below hB, CAY9.out.2.below hB⟩⟩
    have AB10 : Hd (v12.heap[L]? = some (.cells #[.string kR, .int .i64 t1F, .slice q1a q1m q1c, .int .i64 t2F, .slice q1A q1M q1C, .int .i64 hasF, .bool asdF, .string kR, .int .i64 t1C, .slice q2a q2m q2c, .int .i64 t2C, .slice q2A q2M q2C, .int .i64 hasC, .bool asdC, .string kR, .int .i64 t1B, .slice q3a q3m q3c, .int .i64 t2B, .slice q3A q3M q3C, .int .i64 hasB, .bool asdB, .string kR, .int .i64 t1Z, .slice q5a q5m q5c, .int .i64 t2Z, .slice q5A q5M q5C, .int .i64 hasZ, .bool asdZ, .string kR, .int .i64 t1Y, .slice q7a q7m q7c, .int .i64 t2Y, .slice q7A q7M q7C, .int .i64 hasY, .bool asdY] 29 (0, 0))) := ⟨(hB.block _ (lt_of_block AB9.out)).trans AB9.out⟩
    clear K9 R9 CAF9 CAC9 CAB9 CAZ9 CAY9 AB9
    clear hB
    have z0 : v12.cell? ⟨L, 7, none⟩ = some (.string kR) := arr_cell AB10.out (Below.refl _ v12) 7 _ rfl
    have z1 : v12.cell? ⟨L, 8, none⟩ = some (.int .i64 t1C) := arr_cell AB10.out (Below.refl _ v12) 8 _ rfl
    have z2 : v12.cell? ⟨L, 9, none⟩ = some (.slice q2a q2m q2c) := arr_cell AB10.out (Below.refl _ v12) 9 _ rfl
    have z3 : v12.cell? ⟨L, 10, none⟩ = some (.int .i64 t2C) := arr_cell AB10.out (Below.refl _ v12) 10 _ rfl
    have z4 : v12.cell? ⟨L, 11, none⟩ = some (.slice q2A q2M q2C) := arr_cell AB10.out (Below.refl _ v12) 11 _ rfl
    have z5 : v12.cell? ⟨L, 12, none⟩ = some (.int .i64 hasC) := arr_cell AB10.out (Below.refl _ v12) 12 _ rfl
    have z6 : v12.cell? ⟨L, 13, none⟩ = some (.bool asdC) := arr_cell AB10.out (Below.refl _ v12) 13 _ rfl
    obtain ⟨cr0, _, _, _, _, _, _⟩ := cells7 _ pR _ _ _ _ _ _ _ _ R10.out.box
    go_wp2_with fail
    have KK : Hd (∀ w', Below v12.heap.size v12 w' → ((w'.cell? ⟨L, 7, none⟩ = some (.string kR) ∧ w'.cell? ⟨L, 8, none⟩ = some (.int .i64 t1C) ∧ w'.cell? ⟨L, 9, none⟩ = some (.slice q2a q2m q2c) ∧ w'.cell? ⟨L, 10, none⟩ = some (.int .i64 t2C) ∧ w'.cell? ⟨L, 11, none⟩ = some (.slice q2A q2M q2C) ∧ w'.cell? ⟨L, 12, none⟩ = some (.int .i64 hasC) ∧ w'.cell? ⟨L, 13, none⟩ = some (.bool asdC)) ∧ w'.cell? ⟨pR, 0, none⟩ = some (.string kR))) := ⟨fun w' hb => ⟨⟨arr_cell AB10.out hb 7 _ rfl, arr_cell AB10.out hb 8 _ rfl, arr_cell AB10.out hb 9 _ rfl, arr_cell AB10.out hb 10 _ rfl, arr_cell AB10.out hb 11 _ rfl, arr_cell AB10.out hb 12 _ rfl, arr_cell AB10.out hb 13 _ rfl⟩, (R10.out.cells hb).1⟩⟩
    have D0 : Hd (Below v12.heap.size v12 v12.drew) := ⟨(Below.refl _ v12).drew⟩
    go_region_held (fun w' => (w'.cell? ⟨L, 7, none⟩ = some (.string kR) ∧ w'.cell? ⟨L, 8, none⟩ = some (.int .i64 t1C) ∧ w'.cell? ⟨L, 9, none⟩ = some (.slice q2a q2m q2c) ∧ w'.cell? ⟨L, 10, none⟩ = some (.int .i64 t2C) ∧ w'.cell? ⟨L, 11, none⟩ = some (.slice q2A q2M q2C) ∧ w'.cell? ⟨L, 12, none⟩ = some (.int .i64 hasC) ∧ w'.cell? ⟨L, 13, none⟩ = some (.bool asdC)) ∧ w'.cell? ⟨pR, 0, none⟩ = some (.string kR)) (first | (with_reducible exact KK.out _ D1.out) | (with_reducible exact KK.out _ D0.out)) (first | (go_at_call 11; refine (implRowOk_any kR t1C q2a q2m q2c t2C q2A q2M q2C hasC asdC b1C b2C _ HKR.out (CAC10.out.1.below D0.out) (CAC10.out.2.below D0.out) HLC.out.1 HLC.out.2 ⟨(K10.out.next D0.out).tabs⟩).mono ?_; rintro e u1 ⟨rfl, hB⟩; rewrite [HOC.out]; have D1 : Hd (Below v12.heap.size v12 u1) := ⟨Below.next D0.out hB⟩; clear hB))
    clear z0 z1 z2 z3 z4 z5 z6
    clear cr0
    have K11 : Hd (CStays w a0 len0 bs u1) := ⟨K10.out.next D1.out⟩
    have R11 : Hd (RBx pR kR t1R a1R n1R c1R b1R t2R a2R n2R c2R b2R hasR asdR u1) := ⟨R10.out.below D1.out⟩
    have CAF11 : Hd (CellAt u1 q1a q1m q1c b1F ∧ CellAt u1 q1A q1M q1C b2F) := ⟨⟨CAF10.out.1.below D1.out, CAF10.out.2.below D1.out⟩⟩
    have CAC11 : Hd (CellAt u1 q2a q2m q2c b1C ∧ CellAt u1 q2A q2M q2C b2C) := ⟨⟨CAC10.out.1.below D1.out, CAC10.out.2.below D1.out⟩⟩
    have CAB11 : Hd (CellAt u1 q3a q3m q3c b1B ∧ CellAt u1 q3A q3M q3C b2B) := ⟨⟨CAB10.out.1.below D1.out, CAB10.out.2.below D1.out⟩⟩
    have CAZ11 : Hd (CellAt u1 q5a q5m q5c b1Z ∧ CellAt u1 q5A q5M q5C b2Z) := ⟨⟨CAZ10.out.1.below D1.out, CAZ10.out.2.below D1.out⟩⟩
    have CAY11 : Hd (CellAt u1 q7a q7m q7c b1Y ∧ CellAt u1 q7A q7M q7C b2Y) := ⟨⟨CAY10.out.1.below D1.out, CAY10.out.2.below D1.out⟩⟩
    have AB11 : Hd (u1.heap[L]? = some (.cells #[.string kR, .int .i64 t1F, .slice q1a q1m q1c, .int .i64 t2F, .slice q1A q1M q1C, .int .i64 hasF, .bool asdF, .string kR, .int .i64 t1C, .slice q2a q2m q2c, .int .i64 t2C, .slice q2A q2M q2C, .int .i64 hasC, .bool asdC, .string kR, .int .i64 t1B, .slice q3a q3m q3c, .int .i64 t2B, .slice q3A q3M q3C, .int .i64 hasB, .bool asdB, .string kR, .int .i64 t1Z, .slice q5a q5m q5c, .int .i64 t2Z, .slice q5A q5M q5C, .int .i64 hasZ, .bool asdZ, .string kR, .int .i64 t1Y, .slice q7a q7m q7c, .int .i64 t2Y, .slice q7A q7M q7C, .int .i64 hasY, .bool asdY] 29 (0, 0))) := ⟨(D1.out.block _ (lt_of_block AB10.out)).trans AB10.out⟩
    clear K10 R10 CAF10 CAC10 CAB10 CAZ10 CAY10 AB10
    clear KK D0 D1
    generalize hu : u1 = v13 at *
    clear hu
    go_wp2_with fail
    rewrite [rounds_succ]
    have z0 : v13.cell? ⟨L, 14, none⟩ = some (.string kR) := arr_cell AB11.out (Below.refl _ v13) 14 _ rfl
    have z1 : v13.cell? ⟨L, 15, none⟩ = some (.int .i64 t1B) := arr_cell AB11.out (Below.refl _ v13) 15 _ rfl
    have z2 : v13.cell? ⟨L, 16, none⟩ = some (.slice q3a q3m q3c) := arr_cell AB11.out (Below.refl _ v13) 16 _ rfl
    have z3 : v13.cell? ⟨L, 17, none⟩ = some (.int .i64 t2B) := arr_cell AB11.out (Below.refl _ v13) 17 _ rfl
    have z4 : v13.cell? ⟨L, 18, none⟩ = some (.slice q3A q3M q3C) := arr_cell AB11.out (Below.refl _ v13) 18 _ rfl
    have z5 : v13.cell? ⟨L, 19, none⟩ = some (.int .i64 hasB) := arr_cell AB11.out (Below.refl _ v13) 19 _ rfl
    have z6 : v13.cell? ⟨L, 20, none⟩ = some (.bool asdB) := arr_cell AB11.out (Below.refl _ v13) 20 _ rfl
    go_wp2_with fail
    clear z0 z1 z2 z3 z4 z5 z6
    refine (implRowText_any kR t1B q3a q3m q3c t2B q3A q3M q3C hasB asdB b1B b2B _ CAB11.out.1 CAB11.out.2 HLB.out.1 HLB.out.2 ⟨K11.out.tabs⟩).mono ?_
    rintro e v14 ⟨rfl, hB⟩
    rewrite [HSB.out, HTB.out]
    have K12 : Hd (CStays w a0 len0 bs v14) := ⟨K11.out.next hB⟩
    have R12 : Hd (RBx pR kR t1R a1R n1R c1R b1R t2R a2R n2R c2R b2R hasR asdR v14) := ⟨R11.out.below hB⟩
    have CAF12 : Hd (CellAt v14 q1a q1m q1c b1F ∧ CellAt v14 q1A q1M q1C b2F) := ⟨⟨CAF11.out.1.below hB, CAF11.out.2.below hB⟩⟩
    have CAC12 : Hd (CellAt v14 q2a q2m q2c b1C ∧ CellAt v14 q2A q2M q2C b2C) := ⟨⟨CAC11.out.1.below hB, CAC11.out.2.below hB⟩⟩
    have CAB12 : Hd (CellAt v14 q3a q3m q3c b1B ∧ CellAt v14 q3A q3M q3C b2B) := ⟨⟨CAB11.out.1.below hB, CAB11.out.2.below hB⟩⟩
    have CAZ12 : Hd (CellAt v14 q5a q5m q5c b1Z ∧ CellAt v14 q5A q5M q5C b2Z) := ⟨⟨CAZ11.out.1.below hB, CAZ11.out.2.below hB⟩⟩
    have CAY12 : Hd (CellAt v14 q7a q7m q7c b1Y ∧ CellAt v14 q7A q7M q7C b2Y) := ⟨⟨CAY11.out.1.below hB, CAY11.out.2.below hB⟩⟩
    have AB12 : Hd (v14.heap[L]? = some (.cells #[.string kR, .int .i64 t1F, .slice q1a q1m q1c, .int .i64 t2F, .slice q1A q1M q1C, .int .i64 hasF, .bool asdF, .string kR, .int .i64 t1C, .slice q2a q2m q2c, .int .i64 t2C, .slice q2A q2M q2C, .int .i64 hasC, .bool asdC, .string kR, .int .i64 t1B, .slice q3a q3m q3c, .int .i64 t2B, .slice q3A q3M q3C, .int .i64 hasB, .bool asdB, .string kR, .int .i64 t1Z, .slice q5a q5m q5c, .int .i64 t2Z, .slice q5A q5M q5C, .int .i64 hasZ, .bool asdZ, .string kR, .int .i64 t1Y, .slice q7a q7m q7c, .int .i64 t2Y, .slice q7A q7M q7C, .int .i64 hasY, .bool asdY] 29 (0, 0))) := ⟨(hB.block _ (lt_of_block AB11.out)).trans AB11.out⟩
    clear K11 R11 CAF11 CAC11 CAB11 CAZ11 CAY11 AB11
    clear hB
    have z0 : v14.cell? ⟨L, 14, none⟩ = some (.string kR) := arr_cell AB12.out (Below.refl _ v14) 14 _ rfl
    have z1 : v14.cell? ⟨L, 15, none⟩ = some (.int .i64 t1B) := arr_cell AB12.out (Below.refl _ v14) 15 _ rfl
    have z2 : v14.cell? ⟨L, 16, none⟩ = some (.slice q3a q3m q3c) := arr_cell AB12.out (Below.refl _ v14) 16 _ rfl
    have z3 : v14.cell? ⟨L, 17, none⟩ = some (.int .i64 t2B) := arr_cell AB12.out (Below.refl _ v14) 17 _ rfl
    have z4 : v14.cell? ⟨L, 18, none⟩ = some (.slice q3A q3M q3C) := arr_cell AB12.out (Below.refl _ v14) 18 _ rfl
    have z5 : v14.cell? ⟨L, 19, none⟩ = some (.int .i64 hasB) := arr_cell AB12.out (Below.refl _ v14) 19 _ rfl
    have z6 : v14.cell? ⟨L, 20, none⟩ = some (.bool asdB) := arr_cell AB12.out (Below.refl _ v14) 20 _ rfl
    obtain ⟨cr0, _, _, _, _, _, _⟩ := cells7 _ pR _ _ _ _ _ _ _ _ R12.out.box
    go_wp2_with fail
    have KK : Hd (∀ w', Below v14.heap.size v14 w' → ((w'.cell? ⟨L, 14, none⟩ = some (.string kR) ∧ w'.cell? ⟨L, 15, none⟩ = some (.int .i64 t1B) ∧ w'.cell? ⟨L, 16, none⟩ = some (.slice q3a q3m q3c) ∧ w'.cell? ⟨L, 17, none⟩ = some (.int .i64 t2B) ∧ w'.cell? ⟨L, 18, none⟩ = some (.slice q3A q3M q3C) ∧ w'.cell? ⟨L, 19, none⟩ = some (.int .i64 hasB) ∧ w'.cell? ⟨L, 20, none⟩ = some (.bool asdB)) ∧ w'.cell? ⟨pR, 0, none⟩ = some (.string kR))) := ⟨fun w' hb => ⟨⟨arr_cell AB12.out hb 14 _ rfl, arr_cell AB12.out hb 15 _ rfl, arr_cell AB12.out hb 16 _ rfl, arr_cell AB12.out hb 17 _ rfl, arr_cell AB12.out hb 18 _ rfl, arr_cell AB12.out hb 19 _ rfl, arr_cell AB12.out hb 20 _ rfl⟩, (R12.out.cells hb).1⟩⟩
    have D0 : Hd (Below v14.heap.size v14 v14.drew) := ⟨(Below.refl _ v14).drew⟩
    go_region_held (fun w' => (w'.cell? ⟨L, 14, none⟩ = some (.string kR) ∧ w'.cell? ⟨L, 15, none⟩ = some (.int .i64 t1B) ∧ w'.cell? ⟨L, 16, none⟩ = some (.slice q3a q3m q3c) ∧ w'.cell? ⟨L, 17, none⟩ = some (.int .i64 t2B) ∧ w'.cell? ⟨L, 18, none⟩ = some (.slice q3A q3M q3C) ∧ w'.cell? ⟨L, 19, none⟩ = some (.int .i64 hasB) ∧ w'.cell? ⟨L, 20, none⟩ = some (.bool asdB)) ∧ w'.cell? ⟨pR, 0, none⟩ = some (.string kR)) (first | (with_reducible exact KK.out _ D1.out) | (with_reducible exact KK.out _ D0.out)) (first | (go_at_call 11; refine (implRowOk_any kR t1B q3a q3m q3c t2B q3A q3M q3C hasB asdB b1B b2B _ HKR.out (CAB12.out.1.below D0.out) (CAB12.out.2.below D0.out) HLB.out.1 HLB.out.2 ⟨(K12.out.next D0.out).tabs⟩).mono ?_; rintro e u1 ⟨rfl, hB⟩; rewrite [HOB.out]; have D1 : Hd (Below v14.heap.size v14 u1) := ⟨Below.next D0.out hB⟩; clear hB))
    clear z0 z1 z2 z3 z4 z5 z6
    clear cr0
    have K13 : Hd (CStays w a0 len0 bs u1) := ⟨K12.out.next D1.out⟩
    have R13 : Hd (RBx pR kR t1R a1R n1R c1R b1R t2R a2R n2R c2R b2R hasR asdR u1) := ⟨R12.out.below D1.out⟩
    have CAF13 : Hd (CellAt u1 q1a q1m q1c b1F ∧ CellAt u1 q1A q1M q1C b2F) := ⟨⟨CAF12.out.1.below D1.out, CAF12.out.2.below D1.out⟩⟩
    have CAC13 : Hd (CellAt u1 q2a q2m q2c b1C ∧ CellAt u1 q2A q2M q2C b2C) := ⟨⟨CAC12.out.1.below D1.out, CAC12.out.2.below D1.out⟩⟩
    have CAB13 : Hd (CellAt u1 q3a q3m q3c b1B ∧ CellAt u1 q3A q3M q3C b2B) := ⟨⟨CAB12.out.1.below D1.out, CAB12.out.2.below D1.out⟩⟩
    have CAZ13 : Hd (CellAt u1 q5a q5m q5c b1Z ∧ CellAt u1 q5A q5M q5C b2Z) := ⟨⟨CAZ12.out.1.below D1.out, CAZ12.out.2.below D1.out⟩⟩
    have CAY13 : Hd (CellAt u1 q7a q7m q7c b1Y ∧ CellAt u1 q7A q7M q7C b2Y) := ⟨⟨CAY12.out.1.below D1.out, CAY12.out.2.below D1.out⟩⟩
    have AB13 : Hd (u1.heap[L]? = some (.cells #[.string kR, .int .i64 t1F, .slice q1a q1m q1c, .int .i64 t2F, .slice q1A q1M q1C, .int .i64 hasF, .bool asdF, .string kR, .int .i64 t1C, .slice q2a q2m q2c, .int .i64 t2C, .slice q2A q2M q2C, .int .i64 hasC, .bool asdC, .string kR, .int .i64 t1B, .slice q3a q3m q3c, .int .i64 t2B, .slice q3A q3M q3C, .int .i64 hasB, .bool asdB, .string kR, .int .i64 t1Z, .slice q5a q5m q5c, .int .i64 t2Z, .slice q5A q5M q5C, .int .i64 hasZ, .bool asdZ, .string kR, .int .i64 t1Y, .slice q7a q7m q7c, .int .i64 t2Y, .slice q7A q7M q7C, .int .i64 hasY, .bool asdY] 29 (0, 0))) := ⟨(D1.out.block _ (lt_of_block AB12.out)).trans AB12.out⟩
    clear K12 R12 CAF12 CAC12 CAB12 CAZ12 CAY12 AB12
    clear KK D0 D1
    generalize hu : u1 = v15 at *
    clear hu
    go_wp2_with fail
    rewrite [rounds_succ]
    have z0 : v15.cell? ⟨L, 21, none⟩ = some (.string kR) := arr_cell AB13.out (Below.refl _ v15) 21 _ rfl
    have z1 : v15.cell? ⟨L, 22, none⟩ = some (.int .i64 t1Z) := arr_cell AB13.out (Below.refl _ v15) 22 _ rfl
    have z2 : v15.cell? ⟨L, 23, none⟩ = some (.slice q5a q5m q5c) := arr_cell AB13.out (Below.refl _ v15) 23 _ rfl
    have z3 : v15.cell? ⟨L, 24, none⟩ = some (.int .i64 t2Z) := arr_cell AB13.out (Below.refl _ v15) 24 _ rfl
    have z4 : v15.cell? ⟨L, 25, none⟩ = some (.slice q5A q5M q5C) := arr_cell AB13.out (Below.refl _ v15) 25 _ rfl
    have z5 : v15.cell? ⟨L, 26, none⟩ = some (.int .i64 hasZ) := arr_cell AB13.out (Below.refl _ v15) 26 _ rfl
    have z6 : v15.cell? ⟨L, 27, none⟩ = some (.bool asdZ) := arr_cell AB13.out (Below.refl _ v15) 27 _ rfl
    go_wp2_with fail
    clear z0 z1 z2 z3 z4 z5 z6
    refine (implRowText_any kR t1Z q5a q5m q5c t2Z q5A q5M q5C hasZ asdZ b1Z b2Z _ CAZ13.out.1 CAZ13.out.2 HLZ.out.1 HLZ.out.2 ⟨K13.out.tabs⟩).mono ?_
    rintro e v16 ⟨rfl, hB⟩
    rewrite [HSZ.out, HTZ.out]
    have K14 : Hd (CStays w a0 len0 bs v16) := ⟨K13.out.next hB⟩
    have R14 : Hd (RBx pR kR t1R a1R n1R c1R b1R t2R a2R n2R c2R b2R hasR asdR v16) := ⟨R13.out.below hB⟩
    have CAF14 : Hd (CellAt v16 q1a q1m q1c b1F ∧ CellAt v16 q1A q1M q1C b2F) := ⟨⟨CAF13.out.1.below hB, CAF13.out.2.below hB⟩⟩
    have CAC14 : Hd (CellAt v16 q2a q2m q2c b1C ∧ CellAt v16 q2A q2M q2C b2C) := ⟨⟨CAC13.out.1.below hB, CAC13.out.2.below hB⟩⟩
    have CAB14 : Hd (CellAt v16 q3a q3m q3c b1B ∧ CellAt v16 q3A q3M q3C b2B) := ⟨⟨CAB13.out.1.below hB, CAB13.out.2.below hB⟩⟩
    have CAZ14 : Hd (CellAt v16 q5a q5m q5c b1Z ∧ CellAt v16 q5A q5M q5C b2Z) := ⟨⟨CAZ13.out.1.below hB, CAZ13.out.2.below hB⟩⟩
    have CAY14 : Hd (CellAt v16 q7a q7m q7c b1Y ∧ CellAt v16 q7A q7M q7C b2Y) := ⟨⟨CAY13.out.1.below hB, CAY13.out.2.below hB⟩⟩
    have AB14 : Hd (v16.heap[L]? = some (.cells #[.string kR, .int .i64 t1F, .slice q1a q1m q1c, .int .i64 t2F, .slice q1A q1M q1C, .int .i64 hasF, .bool asdF, .string kR, .int .i64 t1C, .slice q2a q2m q2c, .int .i64 t2C, .slice q2A q2M q2C, .int .i64 hasC, .bool asdC, .string kR, .int .i64 t1B, .slice q3a q3m q3c, .int .i64 t2B, .slice q3A q3M q3C, .int .i64 hasB, .bool asdB, .string kR, .int .i64 t1Z, .slice q5a q5m q5c, .int .i64 t2Z, .slice q5A q5M q5C, .int .i64 hasZ, .bool asdZ, .string kR, .int .i64 t1Y, .slice q7a q7m q7c, .int .i64 t2Y, .slice q7A q7M q7C, .int .i64 hasY, .bool asdY] 29 (0, 0))) := ⟨(hB.block _ (lt_of_block AB13.out)).trans AB13.out⟩
    clear K13 R13 CAF13 CAC13 CAB13 CAZ13 CAY13 AB13
    clear hB
    have z0 : v16.cell? ⟨L, 21, none⟩ = some (.string kR) := arr_cell AB14.out (Below.refl _ v16) 21 _ rfl
    have z1 : v16.cell? ⟨L, 22, none⟩ = some (.int .i64 t1Z) := arr_cell AB14.out (Below.refl _ v16) 22 _ rfl
    have z2 : v16.cell? ⟨L, 23, none⟩ = some (.slice q5a q5m q5c) := arr_cell AB14.out (Below.refl _ v16) 23 _ rfl
    have z3 : v16.cell? ⟨L, 24, none⟩ = some (.int .i64 t2Z) := arr_cell AB14.out (Below.refl _ v16) 24 _ rfl
    have z4 : v16.cell? ⟨L, 25, none⟩ = some (.slice q5A q5M q5C) := arr_cell AB14.out (Below.refl _ v16) 25 _ rfl
    have z5 : v16.cell? ⟨L, 26, none⟩ = some (.int .i64 hasZ) := arr_cell AB14.out (Below.refl _ v16) 26 _ rfl
    have z6 : v16.cell? ⟨L, 27, none⟩ = some (.bool asdZ) := arr_cell AB14.out (Below.refl _ v16) 27 _ rfl
    obtain ⟨cr0, _, _, _, _, _, _⟩ := cells7 _ pR _ _ _ _ _ _ _ _ R14.out.box
    go_wp2_with fail
    have KK : Hd (∀ w', Below v16.heap.size v16 w' → ((w'.cell? ⟨L, 21, none⟩ = some (.string kR) ∧ w'.cell? ⟨L, 22, none⟩ = some (.int .i64 t1Z) ∧ w'.cell? ⟨L, 23, none⟩ = some (.slice q5a q5m q5c) ∧ w'.cell? ⟨L, 24, none⟩ = some (.int .i64 t2Z) ∧ w'.cell? ⟨L, 25, none⟩ = some (.slice q5A q5M q5C) ∧ w'.cell? ⟨L, 26, none⟩ = some (.int .i64 hasZ) ∧ w'.cell? ⟨L, 27, none⟩ = some (.bool asdZ)) ∧ w'.cell? ⟨pR, 0, none⟩ = some (.string kR))) := ⟨fun w' hb => ⟨⟨arr_cell AB14.out hb 21 _ rfl, arr_cell AB14.out hb 22 _ rfl, arr_cell AB14.out hb 23 _ rfl, arr_cell AB14.out hb 24 _ rfl, arr_cell AB14.out hb 25 _ rfl, arr_cell AB14.out hb 26 _ rfl, arr_cell AB14.out hb 27 _ rfl⟩, (R14.out.cells hb).1⟩⟩
    have D0 : Hd (Below v16.heap.size v16 v16.drew) := ⟨(Below.refl _ v16).drew⟩
    go_region_held (fun w' => (w'.cell? ⟨L, 21, none⟩ = some (.string kR) ∧ w'.cell? ⟨L, 22, none⟩ = some (.int .i64 t1Z) ∧ w'.cell? ⟨L, 23, none⟩ = some (.slice q5a q5m q5c) ∧ w'.cell? ⟨L, 24, none⟩ = some (.int .i64 t2Z) ∧ w'.cell? ⟨L, 25, none⟩ = some (.slice q5A q5M q5C) ∧ w'.cell? ⟨L, 26, none⟩ = some (.int .i64 hasZ) ∧ w'.cell? ⟨L, 27, none⟩ = some (.bool asdZ)) ∧ w'.cell? ⟨pR, 0, none⟩ = some (.string kR)) (first | (with_reducible exact KK.out _ D1.out) | (with_reducible exact KK.out _ D0.out)) (first | (go_at_call 11; refine (implRowOk_any kR t1Z q5a q5m q5c t2Z q5A q5M q5C hasZ asdZ b1Z b2Z _ HKR.out (CAZ14.out.1.below D0.out) (CAZ14.out.2.below D0.out) HLZ.out.1 HLZ.out.2 ⟨(K14.out.next D0.out).tabs⟩).mono ?_; rintro e u1 ⟨rfl, hB⟩; rewrite [HOZ.out]; have D1 : Hd (Below v16.heap.size v16 u1) := ⟨Below.next D0.out hB⟩; clear hB))
    clear z0 z1 z2 z3 z4 z5 z6
    clear cr0
    have K15 : Hd (CStays w a0 len0 bs u1) := ⟨K14.out.next D1.out⟩
    have R15 : Hd (RBx pR kR t1R a1R n1R c1R b1R t2R a2R n2R c2R b2R hasR asdR u1) := ⟨R14.out.below D1.out⟩
    have CAF15 : Hd (CellAt u1 q1a q1m q1c b1F ∧ CellAt u1 q1A q1M q1C b2F) := ⟨⟨CAF14.out.1.below D1.out, CAF14.out.2.below D1.out⟩⟩
    have CAC15 : Hd (CellAt u1 q2a q2m q2c b1C ∧ CellAt u1 q2A q2M q2C b2C) := ⟨⟨CAC14.out.1.below D1.out, CAC14.out.2.below D1.out⟩⟩
    have CAB15 : Hd (CellAt u1 q3a q3m q3c b1B ∧ CellAt u1 q3A q3M q3C b2B) := ⟨⟨CAB14.out.1.below D1.out, CAB14.out.2.below D1.out⟩⟩
    have CAZ15 : Hd (CellAt u1 q5a q5m q5c b1Z ∧ CellAt u1 q5A q5M q5C b2Z) := ⟨⟨CAZ14.out.1.below D1.out, CAZ14.out.2.below D1.out⟩⟩
    have CAY15 : Hd (CellAt u1 q7a q7m q7c b1Y ∧ CellAt u1 q7A q7M q7C b2Y) := ⟨⟨CAY14.out.1.below D1.out, CAY14.out.2.below D1.out⟩⟩
    have AB15 : Hd (u1.heap[L]? = some (.cells #[.string kR, .int .i64 t1F, .slice q1a q1m q1c, .int .i64 t2F, .slice q1A q1M q1C, .int .i64 hasF, .bool asdF, .string kR, .int .i64 t1C, .slice q2a q2m q2c, .int .i64 t2C, .slice q2A q2M q2C, .int .i64 hasC, .bool asdC, .string kR, .int .i64 t1B, .slice q3a q3m q3c, .int .i64 t2B, .slice q3A q3M q3C, .int .i64 hasB, .bool asdB, .string kR, .int .i64 t1Z, .slice q5a q5m q5c, .int .i64 t2Z, .slice q5A q5M q5C, .int .i64 hasZ, .bool asdZ, .string kR, .int .i64 t1Y, .slice q7a q7m q7c, .int .i64 t2Y, .slice q7A q7M q7C, .int .i64 hasY, .bool asdY] 29 (0, 0))) := ⟨(D1.out.block _ (lt_of_block AB14.out)).trans AB14.out⟩
    clear K14 R14 CAF14 CAC14 CAB14 CAZ14 CAY14 AB14
    clear KK D0 D1
    generalize hu : u1 = v17 at *
    clear hu
    go_wp2_with fail
    rewrite [rounds_succ]
    have z0 : v17.cell? ⟨L, 28, none⟩ = some (.string kR) := arr_cell AB15.out (Below.refl _ v17) 28 _ rfl
    have z1 : v17.cell? ⟨L, 29, none⟩ = some (.int .i64 t1Y) := arr_cell AB15.out (Below.refl _ v17) 29 _ rfl
    have z2 : v17.cell? ⟨L, 30, none⟩ = some (.slice q7a q7m q7c) := arr_cell AB15.out (Below.refl _ v17) 30 _ rfl
    have z3 : v17.cell? ⟨L, 31, none⟩ = some (.int .i64 t2Y) := arr_cell AB15.out (Below.refl _ v17) 31 _ rfl
    have z4 : v17.cell? ⟨L, 32, none⟩ = some (.slice q7A q7M q7C) := arr_cell AB15.out (Below.refl _ v17) 32 _ rfl
    have z5 : v17.cell? ⟨L, 33, none⟩ = some (.int .i64 hasY) := arr_cell AB15.out (Below.refl _ v17) 33 _ rfl
    have z6 : v17.cell? ⟨L, 34, none⟩ = some (.bool asdY) := arr_cell AB15.out (Below.refl _ v17) 34 _ rfl
    go_wp2_with fail
    clear z0 z1 z2 z3 z4 z5 z6
    refine (implRowText_any kR t1Y q7a q7m q7c t2Y q7A q7M q7C hasY asdY b1Y b2Y _ CAY15.out.1 CAY15.out.2 HLY.out.1 HLY.out.2 ⟨K15.out.tabs⟩).mono ?_
    rintro e v18 ⟨rfl, hB⟩
    rewrite [HSY.out, HTY.out]
    have K16 : Hd (CStays w a0 len0 bs v18) := ⟨K15.out.next hB⟩
    have R16 : Hd (RBx pR kR t1R a1R n1R c1R b1R t2R a2R n2R c2R b2R hasR asdR v18) := ⟨R15.out.below hB⟩
    have CAF16 : Hd (CellAt v18 q1a q1m q1c b1F ∧ CellAt v18 q1A q1M q1C b2F) := ⟨⟨CAF15.out.1.below hB, CAF15.out.2.below hB⟩⟩
    have CAC16 : Hd (CellAt v18 q2a q2m q2c b1C ∧ CellAt v18 q2A q2M q2C b2C) := ⟨⟨CAC15.out.1.below hB, CAC15.out.2.below hB⟩⟩
    have CAB16 : Hd (CellAt v18 q3a q3m q3c b1B ∧ CellAt v18 q3A q3M q3C b2B) := ⟨⟨CAB15.out.1.below hB, CAB15.out.2.below hB⟩⟩
    have CAZ16 : Hd (CellAt v18 q5a q5m q5c b1Z ∧ CellAt v18 q5A q5M q5C b2Z) := ⟨⟨CAZ15.out.1.below hB, CAZ15.out.2.below hB⟩⟩
    have CAY16 : Hd (CellAt v18 q7a q7m q7c b1Y ∧ CellAt v18 q7A q7M q7C b2Y) := ⟨⟨CAY15.out.1.below hB, CAY15.out.2.below hB⟩⟩
    have AB16 : Hd (v18.heap[L]? = some (.cells #[.string kR, .int .i64 t1F, .slice q1a q1m q1c, .int .i64 t2F, .slice q1A q1M q1C, .int .i64 hasF, .bool asdF, .string kR, .int .i64 t1C, .slice q2a q2m q2c, .int .i64 t2C, .slice q2A q2M q2C, .int .i64 hasC, .bool asdC, .string kR, .int .i64 t1B, .slice q3a q3m q3c, .int .i64 t2B, .slice q3A q3M q3C, .int .i64 hasB, .bool asdB, .string kR, .int .i64 t1Z, .slice q5a q5m q5c, .int .i64 t2Z, .slice q5A q5M q5C, .int .i64 hasZ, .bool asdZ, .string kR, .int .i64 t1Y, .slice q7a q7m q7c, .int .i64 t2Y, .slice q7A q7M q7C, .int .i64 hasY, .bool asdY] 29 (0, 0))) := ⟨(hB.block _ (lt_of_block AB15.out)).trans AB15.out⟩
    clear K15 R15 CAF15 CAC15 CAB15 CAZ15 CAY15 AB15
    clear hB
    have z0 : v18.cell? ⟨L, 28, none⟩ = some (.string kR) := arr_cell AB16.out (Below.refl _ v18) 28 _ rfl
    have z1 : v18.cell? ⟨L, 29, none⟩ = some (.int .i64 t1Y) := arr_cell AB16.out (Below.refl _ v18) 29 _ rfl
    have z2 : v18.cell? ⟨L, 30, none⟩ = some (.slice q7a q7m q7c) := arr_cell AB16.out (Below.refl _ v18) 30 _ rfl
    have z3 : v18.cell? ⟨L, 31, none⟩ = some (.int .i64 t2Y) := arr_cell AB16.out (Below.refl _ v18) 31 _ rfl
    have z4 : v18.cell? ⟨L, 32, none⟩ = some (.slice q7A q7M q7C) := arr_cell AB16.out (Below.refl _ v18) 32 _ rfl
    have z5 : v18.cell? ⟨L, 33, none⟩ = some (.int .i64 hasY) := arr_cell AB16.out (Below.refl _ v18) 33 _ rfl
    have z6 : v18.cell? ⟨L, 34, none⟩ = some (.bool asdY) := arr_cell AB16.out (Below.refl _ v18) 34 _ rfl
    obtain ⟨cr0, _, _, _, _, _, _⟩ := cells7 _ pR _ _ _ _ _ _ _ _ R16.out.box
    go_wp2_with fail
    have KK : Hd (∀ w', Below v18.heap.size v18 w' → ((w'.cell? ⟨L, 28, none⟩ = some (.string kR) ∧ w'.cell? ⟨L, 29, none⟩ = some (.int .i64 t1Y) ∧ w'.cell? ⟨L, 30, none⟩ = some (.slice q7a q7m q7c) ∧ w'.cell? ⟨L, 31, none⟩ = some (.int .i64 t2Y) ∧ w'.cell? ⟨L, 32, none⟩ = some (.slice q7A q7M q7C) ∧ w'.cell? ⟨L, 33, none⟩ = some (.int .i64 hasY) ∧ w'.cell? ⟨L, 34, none⟩ = some (.bool asdY)) ∧ w'.cell? ⟨pR, 0, none⟩ = some (.string kR))) := ⟨fun w' hb => ⟨⟨arr_cell AB16.out hb 28 _ rfl, arr_cell AB16.out hb 29 _ rfl, arr_cell AB16.out hb 30 _ rfl, arr_cell AB16.out hb 31 _ rfl, arr_cell AB16.out hb 32 _ rfl, arr_cell AB16.out hb 33 _ rfl, arr_cell AB16.out hb 34 _ rfl⟩, (R16.out.cells hb).1⟩⟩
    have D0 : Hd (Below v18.heap.size v18 v18.drew) := ⟨(Below.refl _ v18).drew⟩
    go_region_held (fun w' => (w'.cell? ⟨L, 28, none⟩ = some (.string kR) ∧ w'.cell? ⟨L, 29, none⟩ = some (.int .i64 t1Y) ∧ w'.cell? ⟨L, 30, none⟩ = some (.slice q7a q7m q7c) ∧ w'.cell? ⟨L, 31, none⟩ = some (.int .i64 t2Y) ∧ w'.cell? ⟨L, 32, none⟩ = some (.slice q7A q7M q7C) ∧ w'.cell? ⟨L, 33, none⟩ = some (.int .i64 hasY) ∧ w'.cell? ⟨L, 34, none⟩ = some (.bool asdY)) ∧ w'.cell? ⟨pR, 0, none⟩ = some (.string kR)) (first | (with_reducible exact KK.out _ D1.out) | (with_reducible exact KK.out _ D0.out)) (first | (go_at_call 11; refine (implRowOk_any kR t1Y q7a q7m q7c t2Y q7A q7M q7C hasY asdY b1Y b2Y _ HKR.out (CAY16.out.1.below D0.out) (CAY16.out.2.below D0.out) HLY.out.1 HLY.out.2 ⟨(K16.out.next D0.out).tabs⟩).mono ?_; rintro e u1 ⟨rfl, hB⟩; rewrite [HOY.out]; have D1 : Hd (Below v18.heap.size v18 u1) := ⟨Below.next D0.out hB⟩; clear hB))
    clear z0 z1 z2 z3 z4 z5 z6
    clear cr0
    have K17 : Hd (CStays w a0 len0 bs u1) := ⟨K16.out.next D1.out⟩
    have R17 : Hd (RBx pR kR t1R a1R n1R c1R b1R t2R a2R n2R c2R b2R hasR asdR u1) := ⟨R16.out.below D1.out⟩
    have CAF17 : Hd (CellAt u1 q1a q1m q1c b1F ∧ CellAt u1 q1A q1M q1C b2F) := ⟨⟨CAF16.out.1.below D1.out, CAF16.out.2.below D1.out⟩⟩
    have CAC17 : Hd (CellAt u1 q2a q2m q2c b1C ∧ CellAt u1 q2A q2M q2C b2C) := ⟨⟨CAC16.out.1.below D1.out, CAC16.out.2.below D1.out⟩⟩
    have CAB17 : Hd (CellAt u1 q3a q3m q3c b1B ∧ CellAt u1 q3A q3M q3C b2B) := ⟨⟨CAB16.out.1.below D1.out, CAB16.out.2.below D1.out⟩⟩
    have CAZ17 : Hd (CellAt u1 q5a q5m q5c b1Z ∧ CellAt u1 q5A q5M q5C b2Z) := ⟨⟨CAZ16.out.1.below D1.out, CAZ16.out.2.below D1.out⟩⟩
    have CAY17 : Hd (CellAt u1 q7a q7m q7c b1Y ∧ CellAt u1 q7A q7M q7C b2Y) := ⟨⟨CAY16.out.1.below D1.out, CAY16.out.2.below D1.out⟩⟩
    have AB17 : Hd (u1.heap[L]? = some (.cells #[.string kR, .int .i64 t1F, .slice q1a q1m q1c, .int .i64 t2F, .slice q1A q1M q1C, .int .i64 hasF, .bool asdF, .string kR, .int .i64 t1C, .slice q2a q2m q2c, .int .i64 t2C, .slice q2A q2M q2C, .int .i64 hasC, .bool asdC, .string kR, .int .i64 t1B, .slice q3a q3m q3c, .int .i64 t2B, .slice q3A q3M q3C, .int .i64 hasB, .bool asdB, .string kR, .int .i64 t1Z, .slice q5a q5m q5c, .int .i64 t2Z, .slice q5A q5M q5C, .int .i64 hasZ, .bool asdZ, .string kR, .int .i64 t1Y, .slice q7a q7m q7c, .int .i64 t2Y, .slice q7A q7M q7C, .int .i64 hasY, .bool asdY] 29 (0, 0))) := ⟨(D1.out.block _ (lt_of_block AB16.out)).trans AB16.out⟩
    clear K16 R16 CAF16 CAC16 CAB16 CAZ16 CAY16 AB16
    clear KK D0 D1
    generalize hu : u1 = v19 at *
    clear hu
    go_wp2_with fail
    rewrite [rounds_succ]
    go_wp2_with fail
    have z0_0 : v19.cell? ⟨L, 0, none⟩ = some (.string kR) := arr_cell AB17.out (Below.refl _ v19) 0 _ rfl
    have z0_1 : v19.cell? ⟨L, 1, none⟩ = some (.int .i64 t1F) := arr_cell AB17.out (Below.refl _ v19) 1 _ rfl
    have z0_2 : v19.cell? ⟨L, 2, none⟩ = some (.slice q1a q1m q1c) := arr_cell AB17.out (Below.refl _ v19) 2 _ rfl
    have z0_3 : v19.cell? ⟨L, 3, none⟩ = some (.int .i64 t2F) := arr_cell AB17.out (Below.refl _ v19) 3 _ rfl
    have z0_4 : v19.cell? ⟨L, 4, none⟩ = some (.slice q1A q1M q1C) := arr_cell AB17.out (Below.refl _ v19) 4 _ rfl
    have z0_5 : v19.cell? ⟨L, 5, none⟩ = some (.int .i64 hasF) := arr_cell AB17.out (Below.refl _ v19) 5 _ rfl
    have z0_6 : v19.cell? ⟨L, 6, none⟩ = some (.bool asdF) := arr_cell AB17.out (Below.refl _ v19) 6 _ rfl
    have z1_0 : v19.cell? ⟨L, 7, none⟩ = some (.string kR) := arr_cell AB17.out (Below.refl _ v19) 7 _ rfl
    have z1_1 : v19.cell? ⟨L, 8, none⟩ = some (.int .i64 t1C) := arr_cell AB17.out (Below.refl _ v19) 8 _ rfl
    have z1_2 : v19.cell? ⟨L, 9, none⟩ = some (.slice q2a q2m q2c) := arr_cell AB17.out (Below.refl _ v19) 9 _ rfl
    have z1_3 : v19.cell? ⟨L, 10, none⟩ = some (.int .i64 t2C) := arr_cell AB17.out (Below.refl _ v19) 10 _ rfl
    have z1_4 : v19.cell? ⟨L, 11, none⟩ = some (.slice q2A q2M q2C) := arr_cell AB17.out (Below.refl _ v19) 11 _ rfl
    have z1_5 : v19.cell? ⟨L, 12, none⟩ = some (.int .i64 hasC) := arr_cell AB17.out (Below.refl _ v19) 12 _ rfl
    have z1_6 : v19.cell? ⟨L, 13, none⟩ = some (.bool asdC) := arr_cell AB17.out (Below.refl _ v19) 13 _ rfl
    have z2_0 : v19.cell? ⟨L, 14, none⟩ = some (.string kR) := arr_cell AB17.out (Below.refl _ v19) 14 _ rfl
    have z2_1 : v19.cell? ⟨L, 15, none⟩ = some (.int .i64 t1B) := arr_cell AB17.out (Below.refl _ v19) 15 _ rfl
    have z2_2 : v19.cell? ⟨L, 16, none⟩ = some (.slice q3a q3m q3c) := arr_cell AB17.out (Below.refl _ v19) 16 _ rfl
    have z2_3 : v19.cell? ⟨L, 17, none⟩ = some (.int .i64 t2B) := arr_cell AB17.out (Below.refl _ v19) 17 _ rfl
    have z2_4 : v19.cell? ⟨L, 18, none⟩ = some (.slice q3A q3M q3C) := arr_cell AB17.out (Below.refl _ v19) 18 _ rfl
    have z2_5 : v19.cell? ⟨L, 19, none⟩ = some (.int .i64 hasB) := arr_cell AB17.out (Below.refl _ v19) 19 _ rfl
    have z2_6 : v19.cell? ⟨L, 20, none⟩ = some (.bool asdB) := arr_cell AB17.out (Below.refl _ v19) 20 _ rfl
    obtain ⟨cr0, cr1, cr2, cr3, cr4, cr5, cr6⟩ := cells7 _ pR _ _ _ _ _ _ _ _ R17.out.box
    have HFF : Hd (fillR ⟨kR, t1F, b1F, t2F, b2F, hasF, asdF⟩ = ⟨kR, t1F, b1F, t2F, b2F, hasF, asdF⟩) := ⟨by rw [← HMF.out]; exact fill_again HOK.out⟩
    have HCC : Hd (cutR ⟨kR, t1C, b1C, t2C, b2C, hasC, asdC⟩ = ⟨kR, t1C, b1C, t2C, b2C, hasC, asdC⟩) := ⟨by rw [← HMC.out]; exact cut_again HOK.out⟩
    have HBB : Hd (backR ⟨kR, t1B, b1B, t2B, b2B, hasB, asdB⟩ = ⟨kR, t1B, b1B, t2B, b2B, hasB, asdB⟩) := ⟨by rw [← HMB.out]; exact back_again HOK.out⟩
    go_wp2_with fail
    have KK : Hd (∀ w', Below v19.heap.size v19 w' → ((w'.cell? ⟨pR, 0, none⟩ = some (.string kR) ∧ w'.cell? ⟨pR, 1, none⟩ = some (.int .i64 t1R) ∧ w'.cell? ⟨pR, 2, none⟩ = some (.slice a1R n1R c1R) ∧ w'.cell? ⟨pR, 3, none⟩ = some (.int .i64 t2R) ∧ w'.cell? ⟨pR, 4, none⟩ = some (.slice a2R n2R c2R) ∧ w'.cell? ⟨pR, 5, none⟩ = some (.int .i64 hasR) ∧ w'.cell? ⟨pR, 6, none⟩ = some (.bool asdR)) ∧ (w'.cell? ⟨L, 0, none⟩ = some (.string kR) ∧ w'.cell? ⟨L, 1, none⟩ = some (.int .i64 t1F) ∧ w'.cell? ⟨L, 2, none⟩ = some (.slice q1a q1m q1c) ∧ w'.cell? ⟨L, 3, none⟩ = some (.int .i64 t2F) ∧ w'.cell? ⟨L, 4, none⟩ = some (.slice q1A q1M q1C) ∧ w'.cell? ⟨L, 5, none⟩ = some (.int .i64 hasF) ∧ w'.cell? ⟨L, 6, none⟩ = some (.bool asdF)) ∧ (w'.cell? ⟨L, 7, none⟩ = some (.string kR) ∧ w'.cell? ⟨L, 8, none⟩ = some (.int .i64 t1C) ∧ w'.cell? ⟨L, 9, none⟩ = some (.slice q2a q2m q2c) ∧ w'.cell? ⟨L, 10, none⟩ = some (.int .i64 t2C) ∧ w'.cell? ⟨L, 11, none⟩ = some (.slice q2A q2M q2C) ∧ w'.cell? ⟨L, 12, none⟩ = some (.int .i64 hasC) ∧ w'.cell? ⟨L, 13, none⟩ = some (.bool asdC)) ∧ w'.cell? ⟨L, 14, none⟩ = some (.string kR) ∧ w'.cell? ⟨L, 15, none⟩ = some (.int .i64 t1B) ∧ w'.cell? ⟨L, 16, none⟩ = some (.slice q3a q3m q3c) ∧ w'.cell? ⟨L, 17, none⟩ = some (.int .i64 t2B) ∧ w'.cell? ⟨L, 18, none⟩ = some (.slice q3A q3M q3C) ∧ w'.cell? ⟨L, 19, none⟩ = some (.int .i64 hasB) ∧ w'.cell? ⟨L, 20, none⟩ = some (.bool asdB))) := ⟨fun w' hb => ⟨R17.out.cells hb, ⟨arr_cell AB17.out hb 0 _ rfl, arr_cell AB17.out hb 1 _ rfl, arr_cell AB17.out hb 2 _ rfl, arr_cell AB17.out hb 3 _ rfl, arr_cell AB17.out hb 4 _ rfl, arr_cell AB17.out hb 5 _ rfl, arr_cell AB17.out hb 6 _ rfl⟩, ⟨arr_cell AB17.out hb 7 _ rfl, arr_cell AB17.out hb 8 _ rfl, arr_cell AB17.out hb 9 _ rfl, arr_cell AB17.out hb 10 _ rfl, arr_cell AB17.out hb 11 _ rfl, arr_cell AB17.out hb 12 _ rfl, arr_cell AB17.out hb 13 _ rfl⟩, ⟨arr_cell AB17.out hb 14 _ rfl, arr_cell AB17.out hb 15 _ rfl, arr_cell AB17.out hb 16 _ rfl, arr_cell AB17.out hb 17 _ rfl, arr_cell AB17.out hb 18 _ rfl, arr_cell AB17.out hb 19 _ rfl, arr_cell AB17.out hb 20 _ rfl⟩⟩⟩
    have D0 : Hd (Below v19.heap.size v19 v19.drew) := ⟨(Below.refl _ v19).drew⟩
    go_region_held (fun w' => (w'.cell? ⟨pR, 0, none⟩ = some (.string kR) ∧ w'.cell? ⟨pR, 1, none⟩ = some (.int .i64 t1R) ∧ w'.cell? ⟨pR, 2, none⟩ = some (.slice a1R n1R c1R) ∧ w'.cell? ⟨pR, 3, none⟩ = some (.int .i64 t2R) ∧ w'.cell? ⟨pR, 4, none⟩ = some (.slice a2R n2R c2R) ∧ w'.cell? ⟨pR, 5, none⟩ = some (.int .i64 hasR) ∧ w'.cell? ⟨pR, 6, none⟩ = some (.bool asdR)) ∧ (w'.cell? ⟨L, 0, none⟩ = some (.string kR) ∧ w'.cell? ⟨L, 1, none⟩ = some (.int .i64 t1F) ∧ w'.cell? ⟨L, 2, none⟩ = some (.slice q1a q1m q1c) ∧ w'.cell? ⟨L, 3, none⟩ = some (.int .i64 t2F) ∧ w'.cell? ⟨L, 4, none⟩ = some (.slice q1A q1M q1C) ∧ w'.cell? ⟨L, 5, none⟩ = some (.int .i64 hasF) ∧ w'.cell? ⟨L, 6, none⟩ = some (.bool asdF)) ∧ (w'.cell? ⟨L, 7, none⟩ = some (.string kR) ∧ w'.cell? ⟨L, 8, none⟩ = some (.int .i64 t1C) ∧ w'.cell? ⟨L, 9, none⟩ = some (.slice q2a q2m q2c) ∧ w'.cell? ⟨L, 10, none⟩ = some (.int .i64 t2C) ∧ w'.cell? ⟨L, 11, none⟩ = some (.slice q2A q2M q2C) ∧ w'.cell? ⟨L, 12, none⟩ = some (.int .i64 hasC) ∧ w'.cell? ⟨L, 13, none⟩ = some (.bool asdC)) ∧ w'.cell? ⟨L, 14, none⟩ = some (.string kR) ∧ w'.cell? ⟨L, 15, none⟩ = some (.int .i64 t1B) ∧ w'.cell? ⟨L, 16, none⟩ = some (.slice q3a q3m q3c) ∧ w'.cell? ⟨L, 17, none⟩ = some (.int .i64 t2B) ∧ w'.cell? ⟨L, 18, none⟩ = some (.slice q3A q3M q3C) ∧ w'.cell? ⟨L, 19, none⟩ = some (.int .i64 hasB) ∧ w'.cell? ⟨L, 20, none⟩ = some (.bool asdB)) (first | (with_reducible exact KK.out _ D7.out) | (with_reducible exact KK.out _ D6.out) | (with_reducible exact KK.out _ D5.out) | (with_reducible exact KK.out _ D4.out) | (with_reducible exact KK.out _ D3.out) | (with_reducible exact KK.out _ D2.out) | (with_reducible exact KK.out _ D1.out) | (with_reducible exact KK.out _ D0.out)) (first | (have G1 := D6; clear G1; go_at_call 9; refine (sameRow_true kR t1B m2a m2m m2c t2B m2A m2M m2C hasB asdB q3a q3m q3c q3A q3M q3C b1B b2B _ M2.out.1 M2.out.2 (CAB17.out.1.below D6.out) (CAB17.out.2.below D6.out)).mono ?_; rintro e u7 ⟨rfl, hB⟩; have D7 : Hd (Below v19.heap.size v19 u7) := ⟨Below.next D6.out hB⟩; clear hB) | (have G1 := D5; clear G1; go_at_call 15; refine (implBackRow_any kR t1B q3a q3m q3c t2B q3A q3M q3C hasB asdB b1B b2B _ HKR.out (CAB17.out.1.below D5.out) (CAB17.out.2.below D5.out) HLB.out.1 HLB.out.2 ⟨(K17.out.next D5.out).tabs⟩).mono ?_; rewrite [HBB.out]; rintro e u6 h9; obtain ⟨m2a, m2m, m2c, m2A, m2M, m2C, rfl, hn1, hn2, hA, _, hB⟩ := h9.at_; have D6 : Hd (Below v19.heap.size v19 u6) := ⟨Below.next D5.out hB⟩; have M2 : Hd (CellAt u6 m2a m2m m2c b1B ∧ CellAt u6 m2A m2M m2C b2B) := ⟨hA.one.at_ hn1, hA.two.at_ hn2⟩; clear h9 hn1 hn2 hA hB) | (have G1 := D4; clear G1; go_at_call 9; refine (sameRow_true kR t1C m1a m1m m1c t2C m1A m1M m1C hasC asdC q2a q2m q2c q2A q2M q2C b1C b2C _ M1.out.1 M1.out.2 (CAC17.out.1.below D4.out) (CAC17.out.2.below D4.out)).mono ?_; rintro e u5 ⟨rfl, hB⟩; have D5 : Hd (Below v19.heap.size v19 u5) := ⟨Below.next D4.out hB⟩; clear hB) | (have G1 := D3; clear G1; go_at_call 14; refine (implCutRow_any kR t1C q2a q2m q2c t2C q2A q2M q2C hasC asdC b1C b2C _ HKR.out (CAC17.out.1.below D3.out) (CAC17.out.2.below D3.out) HLC.out.1 HLC.out.2 ⟨(K17.out.next D3.out).tabs⟩).mono ?_; rewrite [HCC.out]; rintro e u4 h9; obtain ⟨m1a, m1m, m1c, m1A, m1M, m1C, rfl, hn1, hn2, hA, _, hB⟩ := h9.at_; have D4 : Hd (Below v19.heap.size v19 u4) := ⟨Below.next D3.out hB⟩; have M1 : Hd (CellAt u4 m1a m1m m1c b1C ∧ CellAt u4 m1A m1M m1C b2C) := ⟨hA.one.at_ hn1, hA.two.at_ hn2⟩; clear h9 hn1 hn2 hA hB) | (have G1 := D2; clear G1; go_at_call 9; refine (sameRow_true kR t1F m0a m0m m0c t2F m0A m0M m0C hasF asdF q1a q1m q1c q1A q1M q1C b1F b2F _ M0.out.1 M0.out.2 (CAF17.out.1.below D2.out) (CAF17.out.2.below D2.out)).mono ?_; rintro e u3 ⟨rfl, hB⟩; have D3 : Hd (Below v19.heap.size v19 u3) := ⟨Below.next D2.out hB⟩; clear hB) | (have G1 := D1; clear G1; go_at_call 13; refine (implFillRow_any kR t1F q1a q1m q1c t2F q1A q1M q1C hasF asdF b1F b2F _ HKR.out (CAF17.out.1.below D1.out) (CAF17.out.2.below D1.out) HLF.out.1 HLF.out.2 ⟨(K17.out.next D1.out).tabs⟩).mono ?_; rewrite [HFF.out]; rintro e u2 h9; obtain ⟨m0a, m0m, m0c, m0A, m0M, m0C, rfl, hn1, hn2, hA, _, hB⟩ := h9.at_; have D2 : Hd (Below v19.heap.size v19 u2) := ⟨Below.next D1.out hB⟩; have M0 : Hd (CellAt u2 m0a m0m m0c b1F ∧ CellAt u2 m0A m0M m0C b2F) := ⟨hA.one.at_ hn1, hA.two.at_ hn2⟩; clear h9 hn1 hn2 hA hB) | (go_at_call 11; refine (implRowOk_any kR t1R a1R n1R c1R t2R a2R n2R c2R hasR asdR b1R b2R _ R17.out.lk (R17.out.at1.below D0.out) (R17.out.at2.below D0.out) R17.out.l1 R17.out.l2 ⟨(K17.out.next D0.out).tabs⟩).mono ?_; rintro e u1 ⟨rfl, hB⟩; rewrite [HOK.out]; have D1 : Hd (Below v19.heap.size v19 u1) := ⟨Below.next D0.out hB⟩; clear hB))
    have KZ : Hd (CStays w a0 len0 bs u7) := ⟨K17.out.next D7.out⟩
    clear cr0 cr1 cr2 cr3 cr4 cr5 cr6 z0_0 z0_1 z0_2 z0_3 z0_4 z0_5 z0_6 z1_0 z1_1 z1_2 z1_3 z1_4 z1_5 z1_6 z2_0 z2_1 z2_2 z2_3 z2_4 z2_5 z2_6
    clear KK D0 D1 D2 D3 D4 D5 D6 D7
    go_wp2_with fail
    go_ret
    exact ⟨rfl, KZ.out.below⟩

set_option maxRecDepth 100000 in
theorem lifted (os : Os) (started : os.Started) (H : Type) (enc : TypeId × Value → H) :
    ReturnsInHanded {} Tryz.checked os 3 .any (fun w args => (Rows.fnRowsSpec.pre enc Tryz.prog Tryz.f3 Rows.fnRowsRow.domain false w args ∧ laidMetH Tryz.prog Rows.fnRowsRow.laid w) ∧ sizedMet enc Tryz.prog Tryz.f3 (OpenSpec.ofChange Rows.fnRowsSpec) false w args)
      (Rows.fnRowsSpec.post enc Tryz.prog Tryz.f3 false true false false) := by
  refine returnsInHanded_of_change_and (C := Tryz.checked) (X := fun w _ => laidMetH Tryz.prog Rows.fnRowsRow.laid w) (fun _ _ _ hh h => h.of_heap hh) own started (by kernel_rfl) Tryz.func3
    (ChangeSpec.witness_shaped (enc := enc) (C := Tryz.checked) (os := os) (X := fun w _ => laidMetH Tryz.prog Rows.fnRowsRow.laid w) false (World.laidAll Tryz.prog os Rows.fnRowsRow.laid) #[.slice none 0 0] 8 (World.laidAll_os _ _ _)
      (World.shaped_of_ZipB (by kernel_rfl) (by kernel_rfl)) (by kernel_rfl) (by kernel_rfl) (by kernel_rfl)
      (by rw [MakeChecks.laidMetH_plain _ _ _ (by kernel_rfl)]; exact laidMet_laidAll _ (by kernel_rfl) (by kernel_rfl))) ?_
  intro W base args ds gs before hval0 hW _ _ hL _
  have hval : ∀ (j : Nat) t v, Tryz.f3.params[j]? = some t → args[j]? = some v → Value.okWide Tryz.prog W .any base t v := hval0
  have hW' := hW
  obtain ⟨p, q, hA0, hV, rfl, hfz, hnd⟩ := hW
  have hA : DataW.TrodAll enc Tryz.prog W 0 (fun _ => true) true Tryz.f3.params.toList args.toList ds p := hA0
  rw [Tryz.params3] at hA hval
  obtain ⟨v0, vs0, d0, ds0, p0, q0, hargs, rfl, rfl, h0, r0⟩ := trodAll_cons hA
  obtain ⟨rfl, rfl, rfl⟩ := trodAll_nil r0
  obtain rfl : args = #[v0] := by cases args; simp_all
  have hV1 : DataW.TrodVars enc Tryz.prog W (fun _ => true) Rows.fnRowsSpec.vars gs q := hV
  obtain ⟨g1, g2, g3, g4, rfl⟩ : ∃ g1 g2 g3 g4, gs = [g1, g2, g3, g4] := by
    match gs, (vars_length hV1 : gs.length = 4) with
    | [g1, g2, g3, g4], _ => exact ⟨g1, g2, g3, g4, rfl⟩
  obtain ⟨a0, len0, cap0, rfl⟩ := okWide_slice Tryz.underlying22 (hval 0 22 v0 rfl rfl)
  have k0 := h0
  have lt0 : ∀ x ∈ p0, x.block < W.heap.size := by obtain ⟨m, hm⟩ := k0; exact DataW.trod_lt m _ _ _ hm
  obtain ⟨z0, w0⟩ : ∃ zs, IsRow .u8 W a0 len0 cap0 zs := by
    obtain ⟨fuel, hf⟩ := h0
    rcases open_ints Tryz.underlying22 Tryz.underlying5 (by kernel_rfl) hf with ⟨hcs, _⟩ | ⟨x, l, c, zs, hcs, _, hl, hm, hz, _, hcell, hwz⟩
    · simp [Value.cells] at hcs
      obtain ⟨rfl, rfl, rfl⟩ := hcs
      exact ⟨[], .inl ⟨rfl, rfl, rfl, rfl⟩⟩
    · simp [Value.cells] at hcs
      obtain ⟨rfl, rfl, rfl⟩ := hcs
      exact ⟨zs, .inr ⟨_, rfl, hl, hm, by simpa using hz, hcell, hwz⟩⟩
  clear hA0 hval0
  refine (walk a0 len0 cap0 z0 W w0 ⟨all_of hL⟩).mono fun e W' ⟨he, hg⟩ => ?_
  subst he
  exact ⟨_, rfl, _, _, _, [], _, q, hW', trodAll_mk1 (shut_bool Tryz.underlying4 _), (trodAll_cons_mk (Below.trod laidOut (by kernel_rfl) (of_decide_eq_true (by kernel_rfl)) k0 hg lt0) trodAll_mk0), Below.trodVars laidOut hg (by kernel_rfl) hV1, hg.frame _, fun h => by cases h⟩

theorem over : Rows.fnRowsRow.holds Tryz.pinned (OpenSpec.ofChange Rows.fnRowsSpec) :=
  OpenClaim.holds_of_wide 3 Tryz.f3 rfl rfl rfl rfl rfl rfl rfl ⟨rfl, rfl, rfl, rfl, rfl⟩ rfl rfl rfl rfl rfl (by kernel_rfl) Tryz.func3 (by kernel_rfl)
    (of_decide_eq_true (by kernel_rfl)) (by unfold Func.isWrapper; first | (rw [if_pos (by decide +kernel)]; kernel_rfl) | (rw [if_neg (by decide +kernel)]; exact ⟨rfl, rfl⟩))
    (fun os started H enc _ => lifted os started H enc)

theorem plain (f : FuncId) (fn : Func) (hf : Tryz.pinned.checked.prog.funcNamed Rows.fnRowsRow.func = some f) (hfn : Tryz.pinned.checked.prog.funcs[f]? = some fn) :
    true = Tryz.pinned.checked.prog.looks [] ∧ ∀ (j : Nat) t, fn.params[j]? = some t → Tryz.pinned.checked.prog.wantsStandIn t = false := by
  obtain rfl : f = 3 := Option.some.inj ((show Tryz.prog.funcNamed Rows.fnRowsRow.func = some 3 by kernel_rfl).symm.trans hf) |>.symm
  obtain rfl : fn = Tryz.f3 := (Option.some.inj (Tryz.func3.symm.trans hfn)).symm
  refine ⟨by kernel_rfl, fun j t ht => ?_⟩
  rw [Tryz.params3] at ht
  have hm : t ∈ [22] := by first | simpa using Array.mem_of_getElem? ht | (have h := Array.mem_of_getElem? ht; simp at h ⊢; rcases h with h | h | h | h <;> simp [h])
  have hall : ([22].all fun u => !Tryz.prog.wantsStandIn u) = true := by kernel_rfl
  exact (show Tryz.prog.wantsStandIn t = false by simpa using List.all_eq_true.1 hall t hm)

end Go.Proofs.YtpafjehphajbhaaGreatDoor.fnRows

namespace Go.Proofs.YtpafjehphajbhaaGreatDoor
theorem fnRowsCard_holds : Rows.FnRowsCardSaid :=
  Claim7.holds_tied_plain_at .later [] _ _ _ _ fnRows.over (fun _ h => by cases h) (by kernel_rfl) (fun _ h => by cases h) fnRows_row_tie rfl ⟨rfl, rfl⟩ (by kernel_rfl) rfl fnRows.plain (by kernel_rfl)
#print axioms fnRowsCard_holds
end Go.Proofs.YtpafjehphajbhaaGreatDoor
