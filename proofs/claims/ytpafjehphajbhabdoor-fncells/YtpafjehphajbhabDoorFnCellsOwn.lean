/- For every code that is drawn from: a text comes back of its cell; a cell that is turned to other signs, and back, is as it was; what the program answers is what the specification answers. -/
import Derived.Test.YtpafjehphajbhabDoorCards
import Derived.Test.YtpafjehphajbhabDoorTie
import Derived.WalkKit
import Derived.ProofKit
import Derived.OpenShut
import Derived.ShutString
import Derived.ChangeOld
import Derived.Below
import Derived.OpenVars
import Derived.Lay
import Derived.MakeChecks
import Derived.SevenTiedAt
import Derived.Stop.Joined
import Derived.Lib.SmallJoins
import Derived.Test.YtpafjehphajbhabDoorCellN
namespace Go.Proofs.YtpafjehphajbhabDoor.fnCells
open Go.ChangeShapes Go.WideShapes Go.ChangeAt Go.RowKit
open Go.ChangeMaps (open_string shut_string)
set_option linter.unusedVariables false

theorem own : ownKnob Tryd.prog.godebug = none := by kernel_rfl
theorem laidOut : laidOutB Tryd.prog = true := by kernel_rfl

def IsRow (k : IntKind) (w : World) (a : Option Addr) (len cap : Nat) (zs : List Int) : Prop :=
  (a = none ∧ len = 0 ∧ cap = 0 ∧ zs = []) ∨
  ∃ x, a = some x ∧ len ≤ cap ∧ cap ≤ maxLen ∧ zs.length = cap ∧ (∀ i, i < zs.length → w.cell? (x.add i) = some (.int k (zs.getD i 0))) ∧ ∀ n ∈ zs, (Lit.int k n).wf = true

set_option maxRecDepth 4000 in
set_option maxHeartbeats 8000000 in
theorem walk (a0 : Option Addr) (len0 cap0 : Nat) (z0 : List Int) (w : World) (w0 : IsRow .u8 w a0 len0 cap0 z0) (T : Hd (AllAt w)) :
    Calls Tryd.prog 6 #[.slice a0 len0 cap0] w fun e w' => e = .returned (.bool true) ∧ Below w.heap.size w w' := by
  obtain ⟨bs, hr⟩ := reads_of_row w0
  have K0 : Hd (CStays w a0 len0 bs w) := ⟨CStays.start T.out hr⟩
  clear hr w0 T
  by_cases hb : (1048576 : Int) < (len0 : Int)
  · have hbd : decide ((1048576 : Int) < (len0 : Int)) = true := decide_eq_true hb
    go_enter Tryd.func6, Tryd.ntmps6
    go_wp2_with (go_at_call 24; refine (big_any _ _ _ _).mono ?_; rintro e w' ⟨rfl, rfl⟩)
    go_ret
    exact ⟨rfl, Below.refl _ _⟩
  · have hbd : decide ((1048576 : Int) < (len0 : Int)) = false := decide_eq_false hb
    have hl : len0 ≤ 1073741824 := by omega
    go_enter Tryd.func6, Tryd.ntmps6
    go_wp2_with fail
    refine (big_any _ _ _ _).mono ?_
    rintro e w' ⟨rfl, hw'⟩
    replace hw' := hw'.symm
    subst hw'
    clear hbd
    go_wp2_with fail
    refine (drawTurn_any a0 len0 cap0 bs _ hl K0.out.reads).mono ?_
    rintro e v1 ⟨tC, aC, mC, cC, dC, z, rfl, hm, hat, hB⟩
    have hmC : mC ≤ 81 := hm
    have HLC : Hd (dC.length = mC) := ⟨hat.size⟩
    have K1 : Hd (CStays w a0 len0 bs (v1.alloc (.cells #[.int .i64 tC, .slice aC mC cC] 28))) := ⟨(K0.out.next hB).next (below_lit v1 _)⟩
    clear K0 
    have C1 : Hd (CBox v1.heap.size tC aC mC cC dC (v1.alloc (.cells #[.int .i64 tC, .slice aC mC cC] 28))) := ⟨cBox_new hat⟩
    generalize hd : v1.heap.size = pC at *
    clear hm hat hB
    obtain ⟨xs, h1⟩ : ∃ x, (nB tC dC z) = x := ⟨_, rfl⟩
    have HB : Hd ((nB tC dC z) = xs) := ⟨h1⟩
    clear h1
    obtain ⟨xT, h1⟩ : ∃ x, (nTag tC dC z) = x := ⟨_, rfl⟩
    have HT : Hd ((nTag tC dC z) = xT) := ⟨h1⟩
    clear h1
    obtain ⟨ok, h1⟩ : ∃ x, (nOk tC dC z) = x := ⟨_, rfl⟩
    have HK : Hd ((nOk tC dC z) = ok) := ⟨h1⟩
    clear h1
    have HX81 : Hd (xs.length ≤ 81) := ⟨turned_len HB.out (by have := HLC.out; omega)⟩
    have HY : Hd (ok = true → mOk xT xs tC dC = true ∧ nOk xT xs tC = true ∧ nB xT xs tC = dC ∧ nTag xT xs tC = tC ∧ xT = z) := ⟨turned_yes HT.out HB.out HK.out⟩
    have HN : Hd (ok = false → xT = tC ∧ xs = dC) := ⟨turned_no HT.out HB.out HK.out⟩
    have okf : (ok != ok) = false := by simp
    obtain ⟨p0, p1, _, _⟩ := cells2 (v1.alloc (.cells #[.int .i64 tC, .slice aC mC cC] 28)) pC _ _ _ C1.out.box
    go_wp2_with fail
    generalize hw : v1.alloc (.cells #[.int .i64 tC, .slice aC mC cC] 28) = v2 at *
    clear hd hw
    clear p0 p1
    refine (implTurn_any tC aC mC cC dC z _ C1.out.at_ (by omega) ⟨K1.out.tabs⟩).mono ?_
    rewrite [HT.out, HB.out, HK.out]
    rintro e v3 ⟨aX, mX, cX, rfl, hn, hO, _, hB⟩
    have HLX : Hd (xs.length = mX) := ⟨hn⟩
    have hmX : mX ≤ 81 := by have := HX81.out; have := HLX.out; omega
    have hat := hO.at_ hn
    have K2 : Hd (CStays w a0 len0 bs (v3.alloc (.cells #[.int .i64 xT, .slice aX mX cX] 28))) := ⟨(K1.out.next hB).next (below_lit v3 _)⟩
    have C2 : Hd (CBox pC tC aC mC cC dC (v3.alloc (.cells #[.int .i64 xT, .slice aX mX cX] 28))) := ⟨(C1.out.below hB).below (below_lit v3 _)⟩
    clear K1 C1
    have X2 : Hd (CBox v3.heap.size xT aX mX cX xs (v3.alloc (.cells #[.int .i64 xT, .slice aX mX cX] 28))) := ⟨cBox_new hat⟩
    generalize hd : v3.heap.size = pX at *
    clear hn hO hat hB
    obtain ⟨p0, p1, _, _⟩ := cells2 (v3.alloc (.cells #[.int .i64 xT, .slice aX mX cX] 28)) pC _ _ _ C2.out.box
    go_wp2_with fail
    generalize hw : v3.alloc (.cells #[.int .i64 xT, .slice aX mX cX] 28) = v4 at *
    clear hd hw
    clear p0 p1
    refine (specTurn_any tC aC mC cC dC z _ C2.out.at_ (by omega)).mono ?_
    rewrite [HT.out, HB.out, HK.out]
    rintro e v5 ⟨aY, mY, cY, rfl, hn, hO, _, hB⟩
    have HLY : Hd (xs.length = mY) := ⟨hn⟩
    have hmY : mY ≤ 81 := by have := HX81.out; have := HLY.out; omega
    have hat := hO.at_ hn
    have K3 : Hd (CStays w a0 len0 bs (v5.alloc (.cells #[.int .i64 xT, .slice aY mY cY] 28))) := ⟨(K2.out.next hB).next (below_lit v5 _)⟩
    have C3 : Hd (CBox pC tC aC mC cC dC (v5.alloc (.cells #[.int .i64 xT, .slice aY mY cY] 28))) := ⟨(C2.out.below hB).below (below_lit v5 _)⟩
    have X3 : Hd (CBox pX xT aX mX cX xs (v5.alloc (.cells #[.int .i64 xT, .slice aY mY cY] 28))) := ⟨(X2.out.below hB).below (below_lit v5 _)⟩
    clear K2 C2 X2
    have Y3 : Hd (CBox v5.heap.size xT aY mY cY xs (v5.alloc (.cells #[.int .i64 xT, .slice aY mY cY] 28))) := ⟨cBox_new hat⟩
    generalize hd : v5.heap.size = pY at *
    clear hn hO hat hB
    go_wp2_with fail
    generalize hw : v5.alloc (.cells #[.int .i64 xT, .slice aY mY cY] 28) = v6 at *
    clear hd hw
    refine (drawCellOf_any a0 len0 cap0 bs _ hl K3.out.reads).mono ?_
    rintro e v7 ⟨tS_, sS, rfl, hs, hB⟩
    have hs48 : sS.size ≤ 48 := hs
    have K4 : Hd (CStays w a0 len0 bs v7) := ⟨K3.out.next hB⟩
    have C4 : Hd (CBox pC tC aC mC cC dC v7) := ⟨C3.out.below hB⟩
    have X4 : Hd (CBox pX xT aX mX cX xs v7) := ⟨X3.out.below hB⟩
    have Y4 : Hd (CBox pY xT aY mY cY xs v7) := ⟨Y3.out.below hB⟩
    clear K3 C3 X3 Y3
    clear hs hB
    obtain ⟨es, h1⟩ : ∃ x, (oB tS_ sS.data.toList) = x := ⟨_, rfl⟩
    have OB_ : Hd ((oB tS_ sS.data.toList) = es) := ⟨h1⟩
    clear h1
    obtain ⟨eT, h1⟩ : ∃ x, (oTag tS_ sS.data.toList) = x := ⟨_, rfl⟩
    have OT_ : Hd ((oTag tS_ sS.data.toList) = eT) := ⟨h1⟩
    clear h1
    obtain ⟨is, h1⟩ : ∃ x, (oOk tS_ sS.data.toList) = x := ⟨_, rfl⟩
    have OK_ : Hd ((oOk tS_ sS.data.toList) = is) := ⟨h1⟩
    clear h1
    have HE20 : Hd (es.length ≤ 20) := ⟨by have := oB_len tS_ sS.data.toList; rw [OB_.out] at this; exact this⟩
    have isf : (is != is) = false := by simp
    go_wp2_with fail
    refine (implCellOf_any tS_ sS _ (by omega) ⟨K4.out.tabs⟩).mono ?_
    rewrite [OT_.out, OB_.out, OK_.out]
    rintro e v8 ⟨aD, mD, cD, rfl, hn, hO, _, hB⟩
    have HLD : Hd (es.length = mD) := ⟨hn⟩
    have hmD : mD ≤ 81 := by have := HE20.out; have := HLD.out; omega
    have hat := hO.at_ hn
    have K5 : Hd (CStays w a0 len0 bs (v8.alloc (.cells #[.int .i64 eT, .slice aD mD cD] 28))) := ⟨(K4.out.next hB).next (below_lit v8 _)⟩
    have C5 : Hd (CBox pC tC aC mC cC dC (v8.alloc (.cells #[.int .i64 eT, .slice aD mD cD] 28))) := ⟨(C4.out.below hB).below (below_lit v8 _)⟩
    have X5 : Hd (CBox pX xT aX mX cX xs (v8.alloc (.cells #[.int .i64 eT, .slice aD mD cD] 28))) := ⟨(X4.out.below hB).below (below_lit v8 _)⟩
    have Y5 : Hd (CBox pY xT aY mY cY xs (v8.alloc (.cells #[.int .i64 eT, .slice aD mD cD] 28))) := ⟨(Y4.out.below hB).below (below_lit v8 _)⟩
    clear K4 C4 X4 Y4
    have D5 : Hd (CBox v8.heap.size eT aD mD cD es (v8.alloc (.cells #[.int .i64 eT, .slice aD mD cD] 28))) := ⟨cBox_new hat⟩
    generalize hd : v8.heap.size = pD at *
    clear hn hO hat hB
    have HS : Hd (is = true → tOk eT es = true ∧ (⟨(tS eT es).toArray⟩ : ByteArray) = sS ∧ cOk eT mD = true) := ⟨said_yes OT_.out OB_.out OK_.out HLD.out⟩
    go_wp2_with fail
    generalize hw : v8.alloc (.cells #[.int .i64 eT, .slice aD mD cD] 28) = v9 at *
    clear hd hw
    refine (specCellOf_any tS_ sS _ (by omega)).mono ?_
    rewrite [OT_.out, OB_.out, OK_.out]
    rintro e v10 ⟨aE, mE, cE, rfl, hn, hO, _, hB⟩
    have HLE : Hd (es.length = mE) := ⟨hn⟩
    have hmE : mE ≤ 81 := by have := HE20.out; have := HLE.out; omega
    have hat := hO.at_ hn
    have K6 : Hd (CStays w a0 len0 bs (v10.alloc (.cells #[.int .i64 eT, .slice aE mE cE] 28))) := ⟨(K5.out.next hB).next (below_lit v10 _)⟩
    have C6 : Hd (CBox pC tC aC mC cC dC (v10.alloc (.cells #[.int .i64 eT, .slice aE mE cE] 28))) := ⟨(C5.out.below hB).below (below_lit v10 _)⟩
    have X6 : Hd (CBox pX xT aX mX cX xs (v10.alloc (.cells #[.int .i64 eT, .slice aE mE cE] 28))) := ⟨(X5.out.below hB).below (below_lit v10 _)⟩
    have Y6 : Hd (CBox pY xT aY mY cY xs (v10.alloc (.cells #[.int .i64 eT, .slice aE mE cE] 28))) := ⟨(Y5.out.below hB).below (below_lit v10 _)⟩
    have D6 : Hd (CBox pD eT aD mD cD es (v10.alloc (.cells #[.int .i64 eT, .slice aE mE cE] 28))) := ⟨(D5.out.below hB).below (below_lit v10 _)⟩
    clear K5 C5 X5 Y5 D5
    have E6 : Hd (CBox v10.heap.size eT aE mE cE es (v10.alloc (.cells #[.int .i64 eT, .slice aE mE cE] 28))) := ⟨cBox_new hat⟩
    generalize hd : v10.heap.size = pE at *
    clear hn hO hat hB
    go_wp2_with fail
    generalize hw : v10.alloc (.cells #[.int .i64 eT, .slice aE mE cE] 28) = v11 at *
    clear hd hw
    refine (drawSameText_any a0 len0 cap0 bs _ hl K6.out.reads).mono ?_
    rintro e v12 ⟨tA, aA, mA, cA, dA, tB, aB, mB, cB, dB, rfl, hm1, hat1, hm2, hat2, hB⟩
    have hmA : mA ≤ 81 := hm1
    have hmB : mB ≤ 81 := hm2
    have K7 : Hd (CStays w a0 len0 bs v12) := ⟨K6.out.next hB⟩
    have C7 : Hd (CBox pC tC aC mC cC dC v12) := ⟨C6.out.below hB⟩
    have X7 : Hd (CBox pX xT aX mX cX xs v12) := ⟨X6.out.below hB⟩
    have Y7 : Hd (CBox pY xT aY mY cY xs v12) := ⟨Y6.out.below hB⟩
    have D7 : Hd (CBox pD eT aD mD cD es v12) := ⟨D6.out.below hB⟩
    have E7 : Hd (CBox pE eT aE mE cE es v12) := ⟨E6.out.below hB⟩
    clear K6 C6 X6 Y6 D6 E6
    have A9 : Hd (CellAt v12 aA mA cA dA) := ⟨hat1⟩
    have B9 : Hd (CellAt v12 aB mB cB dB) := ⟨hat2⟩
    clear hm1 hm2 hat1 hat2 hB
    obtain ⟨mm, h1⟩ : ∃ x, (mOk tA dA tB dB) = x := ⟨_, rfl⟩
    have HM : Hd ((mOk tA dA tB dB) = mm) := ⟨h1⟩
    clear h1
    have HM2 : Hd (mOk tB dB tA dA = mm) := ⟨(mOk_comm tB dB tA dA).trans HM.out⟩
    have mmf : (mm != mm) = false := by simp
    go_wp2_with fail
    have hb9 : Below v12.heap.size v12 ((v12.alloc (.cells #[.int .i64 tA, .slice aA mA cA] 28)).alloc (.cells #[.int .i64 tB, .slice aB mB cB] 28)) := below_lit2 v12 _ _
    have K8 : Hd (CStays w a0 len0 bs ((v12.alloc (.cells #[.int .i64 tA, .slice aA mA cA] 28)).alloc (.cells #[.int .i64 tB, .slice aB mB cB] 28))) := ⟨K7.out.next hb9⟩
    have C8 : Hd (CBox pC tC aC mC cC dC ((v12.alloc (.cells #[.int .i64 tA, .slice aA mA cA] 28)).alloc (.cells #[.int .i64 tB, .slice aB mB cB] 28))) := ⟨C7.out.below hb9⟩
    have X8 : Hd (CBox pX xT aX mX cX xs ((v12.alloc (.cells #[.int .i64 tA, .slice aA mA cA] 28)).alloc (.cells #[.int .i64 tB, .slice aB mB cB] 28))) := ⟨X7.out.below hb9⟩
    have Y8 : Hd (CBox pY xT aY mY cY xs ((v12.alloc (.cells #[.int .i64 tA, .slice aA mA cA] 28)).alloc (.cells #[.int .i64 tB, .slice aB mB cB] 28))) := ⟨Y7.out.below hb9⟩
    have D8 : Hd (CBox pD eT aD mD cD es ((v12.alloc (.cells #[.int .i64 tA, .slice aA mA cA] 28)).alloc (.cells #[.int .i64 tB, .slice aB mB cB] 28))) := ⟨D7.out.below hb9⟩
    have E8 : Hd (CBox pE eT aE mE cE es ((v12.alloc (.cells #[.int .i64 tA, .slice aA mA cA] 28)).alloc (.cells #[.int .i64 tB, .slice aB mB cB] 28))) := ⟨E7.out.below hb9⟩
    have A8 : Hd (CBox v12.heap.size tA aA mA cA dA ((v12.alloc (.cells #[.int .i64 tA, .slice aA mA cA] 28)).alloc (.cells #[.int .i64 tB, .slice aB mB cB] 28))) := ⟨(laid2 v12 _ _).1, A9.out.below hb9⟩
    have B8 : Hd (CBox (v12.heap.size + 1) tB aB mB cB dB ((v12.alloc (.cells #[.int .i64 tA, .slice aA mA cA] 28)).alloc (.cells #[.int .i64 tB, .slice aB mB cB] 28))) := ⟨(laid2 v12 _ _).2, B9.out.below hb9⟩
    clear hb9 A9 B9 K7 C7 X7 Y7 D7 E7
    generalize hd : v12.heap.size = pA at *
    generalize hw : ((v12.alloc (.cells #[.int .i64 tA, .slice aA mA cA] 28)).alloc (.cells #[.int .i64 tB, .slice aB mB cB] 28)) = v13 at *
    clear hd hw
    have KS : Hd (∀ w', Below v13.heap.size v13 w' → (fun w' => (w'.cell? ⟨pX, 0, none⟩ = some (.int .i64 xT) ∧ w'.cell? ⟨pX, 1, none⟩ = some (.slice aX mX cX)) ∧ (w'.cell? ⟨pY, 0, none⟩ = some (.int .i64 xT) ∧ w'.cell? ⟨pY, 1, none⟩ = some (.slice aY mY cY)) ∧ (w'.cell? ⟨pD, 0, none⟩ = some (.int .i64 eT) ∧ w'.cell? ⟨pD, 1, none⟩ = some (.slice aD mD cD)) ∧ (w'.cell? ⟨pE, 0, none⟩ = some (.int .i64 eT) ∧ w'.cell? ⟨pE, 1, none⟩ = some (.slice aE mE cE)) ∧ (w'.cell? ⟨pA, 0, none⟩ = some (.int .i64 tA) ∧ w'.cell? ⟨pA, 1, none⟩ = some (.slice aA mA cA)) ∧ (w'.cell? ⟨(pA + 1), 0, none⟩ = some (.int .i64 tB) ∧ w'.cell? ⟨(pA + 1), 1, none⟩ = some (.slice aB mB cB))) w') := ⟨fun w' hb => ⟨X8.out.val hb, Y8.out.val hb, D8.out.val hb, E8.out.val hb, A8.out.val hb, B8.out.val hb⟩⟩
    go_region_held (fun w' => (w'.cell? ⟨pX, 0, none⟩ = some (.int .i64 xT) ∧ w'.cell? ⟨pX, 1, none⟩ = some (.slice aX mX cX)) ∧ (w'.cell? ⟨pY, 0, none⟩ = some (.int .i64 xT) ∧ w'.cell? ⟨pY, 1, none⟩ = some (.slice aY mY cY)) ∧ (w'.cell? ⟨pD, 0, none⟩ = some (.int .i64 eT) ∧ w'.cell? ⟨pD, 1, none⟩ = some (.slice aD mD cD)) ∧ (w'.cell? ⟨pE, 0, none⟩ = some (.int .i64 eT) ∧ w'.cell? ⟨pE, 1, none⟩ = some (.slice aE mE cE)) ∧ (w'.cell? ⟨pA, 0, none⟩ = some (.int .i64 tA) ∧ w'.cell? ⟨pA, 1, none⟩ = some (.slice aA mA cA)) ∧ (w'.cell? ⟨(pA + 1), 0, none⟩ = some (.int .i64 tB) ∧ w'.cell? ⟨(pA + 1), 1, none⟩ = some (.slice aB mB cB))) (first | assumption | exact KS.out _ (Below.refl _ v13).drew | exact KS.out _ D5.out | exact KS.out _ D4.out | exact KS.out _ D3.out | exact KS.out _ D2.out | exact KS.out _ D1.out | exact KS.out _ D0.out) (first | (have G1 := D4; clear G1; go_at_call 31; refine (implSameText_any tB aB mB cB dB tA aA mA cA dA _ (B8.out.below D4.out).at_ (by omega) (A8.out.below D4.out).at_ (by omega) ⟨(K8.out.next D4.out).tabs⟩).mono ?_; rintro e v19 ⟨rfl, hB⟩; rewrite [HM2.out]; have D5 : Hd (Below v13.heap.size v13 v19) := (⟨Below.next D4.out hB⟩); clear hB) | (have G1 := D3; clear G1; go_at_call 31; refine (implSameText_any tA aA mA cA dA tB aB mB cB dB _ (A8.out.below D3.out).at_ (by omega) (B8.out.below D3.out).at_ (by omega) ⟨(K8.out.next D3.out).tabs⟩).mono ?_; rintro e v18 ⟨rfl, hB⟩; rewrite [HM.out]; have D4 : Hd (Below v13.heap.size v13 v18) := (⟨Below.next D3.out hB⟩); clear hB) | (have G1 := D2; clear G1; go_at_call 32; refine (specSameText_any tA aA mA cA dA tB aB mB cB dB _ (A8.out.below D2.out).at_ (by omega) (B8.out.below D2.out).at_ (by omega)).mono ?_; rintro e v17 ⟨rfl, hB⟩; rewrite [HM.out]; have D3 : Hd (Below v13.heap.size v13 v17) := (⟨Below.next D2.out hB⟩); clear hB) | (have G1 := D1; clear G1; go_at_call 31; refine (implSameText_any tA aA mA cA dA tB aB mB cB dB _ (A8.out.below D1.out).at_ (by omega) (B8.out.below D1.out).at_ (by omega) ⟨(K8.out.next D1.out).tabs⟩).mono ?_; rintro e v16 ⟨rfl, hB⟩; rewrite [HM.out]; have D2 : Hd (Below v13.heap.size v13 v16) := (⟨Below.next D1.out hB⟩); clear hB) | (have G1 := D0; clear G1; go_at_call 30; refine (sameCell_true eT aD mD cD aE mE cE es _ (D8.out.below D0.out).at_ (E8.out.below D0.out).at_).mono ?_; rintro e v15 ⟨rfl, hB⟩; have D1 : Hd (Below v13.heap.size v13 v15) := (⟨Below.next D0.out hB⟩); clear hB) | (go_at_call 30; refine (sameCell_true xT aX mX cX aY mY cY xs _ (X8.out.below (Below.refl _ v13).drew).at_ (Y8.out.below (Below.refl _ v13).drew).at_).mono ?_; rintro e v14 ⟨rfl, hB⟩; have D0 : Hd (Below v13.heap.size v13 v14) := (⟨Below.next (Below.refl _ v13).drew hB⟩); clear hB))
    have K9 : Hd (CStays w a0 len0 bs v19) := ⟨K8.out.next D5.out⟩
    have C9 : Hd (CBox pC tC aC mC cC dC v19) := ⟨C8.out.below D5.out⟩
    have X9 : Hd (CBox pX xT aX mX cX xs v19) := ⟨X8.out.below D5.out⟩
    have Y9 : Hd (CBox pY xT aY mY cY xs v19) := ⟨Y8.out.below D5.out⟩
    have D9 : Hd (CBox pD eT aD mD cD es v19) := ⟨D8.out.below D5.out⟩
    have E9 : Hd (CBox pE eT aE mE cE es v19) := ⟨E8.out.below D5.out⟩
    have A9 : Hd (CBox pA tA aA mA cA dA v19) := ⟨A8.out.below D5.out⟩
    have B9 : Hd (CBox (pA + 1) tB aB mB cB dB v19) := ⟨B8.out.below D5.out⟩
    clear K8 C8 X8 Y8 D8 E8 A8 B8
    clear KS D0 D1 D2 D3 D4 D5
    clear Y9
    clear E9
    clear A9
    clear B9
    clear HM HM2 mmf
    cases is with
    | false =>
      clear HS OB_ OT_ OK_
      cases ok with
      | false =>
        obtain ⟨e1, e2⟩ := HN.out rfl
        clear HY HN HB HT HK
        subst e1
        subst e2
        obtain ⟨p0, p1, _, _⟩ := cells2 v19 pX _ _ _ X9.out.box
        obtain ⟨q0, q1, _, _⟩ := cells2 v19 pC _ _ _ C9.out.box
        go_wp2_with fail
        clear p0 p1 q0 q1
        refine (sameCell_true xT aX mX cX aC mC cC xs _ X9.out.at_ C9.out.at_).mono ?_
        rintro e v20 ⟨rfl, hB⟩
        have Q2 : Hd (CStays w a0 len0 bs v20) := ⟨K9.out.next hB⟩
        clear hB
        go_wp2_with fail
        go_ret
        exact ⟨rfl, Q2.out.below⟩
      | true =>
        obtain ⟨y1, y2, y3, y4, y5⟩ := HY.out rfl
        have Y1_ : Hd (mOk xT xs tC dC = true) := ⟨y1⟩
        have Y2_ : Hd (nOk xT xs tC = true) := ⟨y2⟩
        have Y3_ : Hd (nB xT xs tC = dC) := ⟨y3⟩
        have Y4_ : Hd (nTag xT xs tC = tC) := ⟨y4⟩
        clear HY HN y1 y2 y3 y4 HB HT HK
        subst y5
        have f5 : (xT == xT) = true := by simp
        obtain ⟨p0, p1, _, _⟩ := cells2 v19 pX _ _ _ X9.out.box
        obtain ⟨q0, q1, _, _⟩ := cells2 v19 pC _ _ _ C9.out.box
        go_wp2_with fail
        clear p0 p1 q0 q1
        refine (implTurn_any xT aX mX cX xs tC _ X9.out.at_ (by omega) ⟨K9.out.tabs⟩).mono ?_
        rewrite [Y4_.out, Y3_.out, Y2_.out]
        rintro e v21 ⟨aZ, mZ, cZ, rfl, hn, hO, _, hB⟩
        have HLZ : Hd (dC.length = mZ) := ⟨hn⟩
        have hmZ : mZ ≤ 81 := by have := HLC.out; have := HLZ.out; omega
        have hat := hO.at_ hn
        have K10 : Hd (CStays w a0 len0 bs (v21.alloc (.cells #[.int .i64 tC, .slice aZ mZ cZ] 28))) := ⟨(K9.out.next hB).next (below_lit v21 _)⟩
        have C10 : Hd (CBox pC tC aC mC cC dC (v21.alloc (.cells #[.int .i64 tC, .slice aZ mZ cZ] 28))) := ⟨(C9.out.below hB).below (below_lit v21 _)⟩
        have X10 : Hd (CBox pX xT aX mX cX xs (v21.alloc (.cells #[.int .i64 tC, .slice aZ mZ cZ] 28))) := ⟨(X9.out.below hB).below (below_lit v21 _)⟩
        have D10 : Hd (CBox pD eT aD mD cD es (v21.alloc (.cells #[.int .i64 tC, .slice aZ mZ cZ] 28))) := ⟨(D9.out.below hB).below (below_lit v21 _)⟩
        clear K9 C9 X9 D9
        have Z10 : Hd (CBox v21.heap.size tC aZ mZ cZ dC (v21.alloc (.cells #[.int .i64 tC, .slice aZ mZ cZ] 28))) := ⟨cBox_new hat⟩
        generalize hd : v21.heap.size = pZ at *
        clear hn hO hat hB
        obtain ⟨p0, p1, _, _⟩ := cells2 (v21.alloc (.cells #[.int .i64 tC, .slice aZ mZ cZ] 28)) pX _ _ _ X10.out.box
        obtain ⟨q0, q1, _, _⟩ := cells2 (v21.alloc (.cells #[.int .i64 tC, .slice aZ mZ cZ] 28)) pC _ _ _ C10.out.box
        go_wp2_with fail
        generalize hw : v21.alloc (.cells #[.int .i64 tC, .slice aZ mZ cZ] 28) = v22 at *
        clear hd hw
        clear p0 p1 q0 q1
        refine (implSameText_any xT aX mX cX xs tC aC mC cC dC _ X10.out.at_ (by omega) C10.out.at_ (by omega) ⟨K10.out.tabs⟩).mono ?_
        rintro e v23 ⟨rfl, hB⟩
        rewrite [Y1_.out]
        have K11 : Hd (CStays w a0 len0 bs v23) := ⟨K10.out.next hB⟩
        have C11 : Hd (CBox pC tC aC mC cC dC v23) := ⟨C10.out.below hB⟩
        have X11 : Hd (CBox pX xT aX mX cX xs v23) := ⟨X10.out.below hB⟩
        have D11 : Hd (CBox pD eT aD mD cD es v23) := ⟨D10.out.below hB⟩
        have Z11 : Hd (CBox pZ tC aZ mZ cZ dC v23) := ⟨Z10.out.below hB⟩
        clear K10 C10 X10 D10 Z10
        clear hB
        obtain ⟨p0, p1, _, _⟩ := cells2 v23 pZ _ _ _ Z11.out.box
        obtain ⟨q0, q1, _, _⟩ := cells2 v23 pC _ _ _ C11.out.box
        go_wp2_with fail
        clear p0 p1 q0 q1
        refine (sameCell_true tC aZ mZ cZ aC mC cC dC _ Z11.out.at_ C11.out.at_).mono ?_
        rintro e v24 ⟨rfl, hB⟩
        have K12 : Hd (CStays w a0 len0 bs v24) := ⟨K11.out.next hB⟩
        have C12 : Hd (CBox pC tC aC mC cC dC v24) := ⟨C11.out.below hB⟩
        have X12 : Hd (CBox pX xT aX mX cX xs v24) := ⟨X11.out.below hB⟩
        have D12 : Hd (CBox pD eT aD mD cD es v24) := ⟨D11.out.below hB⟩
        have Z12 : Hd (CBox pZ tC aZ mZ cZ dC v24) := ⟨Z11.out.below hB⟩
        clear K11 C11 X11 D11 Z11
        clear hB
        obtain ⟨p0, p1, _, _⟩ := cells2 v24 pX _ _ _ X12.out.box
        go_wp2_with fail
        go_ret
        exact ⟨rfl, K12.out.below⟩
    | true =>
      obtain ⟨s1, s2, s3⟩ := HS.out rfl
      have S1_ : Hd (tOk eT es = true) := ⟨s1⟩
      have S2_ : Hd ((⟨(tS eT es).toArray⟩ : ByteArray) = sS) := ⟨s2⟩
      have S3_ : Hd (cOk eT mD = true) := ⟨s3⟩
      have g1 : (sS.toList == sS.toList) = true := by simp
      have g2 : (sS.toList != sS.toList) = false := by simp
      clear HS OB_ OT_ OK_ s1 s2 s3
      obtain ⟨p0, p1, _, _⟩ := cells2 v19 pD _ _ _ D9.out.box
      go_wp2_with fail
      clear p0 p1
      refine (implCellText_any eT aD mD cD es _ D9.out.at_ (by omega) ⟨K9.out.tabs⟩).mono ?_
      rintro e v25 ⟨rfl, hB⟩
      rewrite [S2_.out, S1_.out]
      have K10 : Hd (CStays w a0 len0 bs v25) := ⟨K9.out.next hB⟩
      have C10 : Hd (CBox pC tC aC mC cC dC v25) := ⟨C9.out.below hB⟩
      have X10 : Hd (CBox pX xT aX mX cX xs v25) := ⟨X9.out.below hB⟩
      have D10 : Hd (CBox pD eT aD mD cD es v25) := ⟨D9.out.below hB⟩
      clear K9 C9 X9 D9
      clear hB
      obtain ⟨p0, p1, _, _⟩ := cells2 v25 pD _ _ _ D10.out.box
      go_wp2_with fail
      clear p0 p1
      refine (implCellOk_any eT aD mD cD _).mono ?_
      rintro e v26 ⟨rfl, hB⟩
      rewrite [S3_.out]
      have K11 : Hd (CStays w a0 len0 bs v26) := ⟨K10.out.next hB⟩
      have C11 : Hd (CBox pC tC aC mC cC dC v26) := ⟨C10.out.below hB⟩
      have X11 : Hd (CBox pX xT aX mX cX xs v26) := ⟨X10.out.below hB⟩
      have D11 : Hd (CBox pD eT aD mD cD es v26) := ⟨D10.out.below hB⟩
      clear K10 C10 X10 D10
      clear hB
      cases ok with
      | false =>
        obtain ⟨e1, e2⟩ := HN.out rfl
        clear HY HN HB HT HK
        subst e1
        subst e2
        obtain ⟨p0, p1, _, _⟩ := cells2 v26 pX _ _ _ X11.out.box
        obtain ⟨q0, q1, _, _⟩ := cells2 v26 pC _ _ _ C11.out.box
        go_wp2_with fail
        clear p0 p1 q0 q1
        refine (sameCell_true xT aX mX cX aC mC cC xs _ X11.out.at_ C11.out.at_).mono ?_
        rintro e v27 ⟨rfl, hB⟩
        have Q2 : Hd (CStays w a0 len0 bs v27) := ⟨K11.out.next hB⟩
        clear hB
        go_wp2_with fail
        go_ret
        exact ⟨rfl, Q2.out.below⟩
      | true =>
        obtain ⟨y1, y2, y3, y4, y5⟩ := HY.out rfl
        have Y1_ : Hd (mOk xT xs tC dC = true) := ⟨y1⟩
        have Y2_ : Hd (nOk xT xs tC = true) := ⟨y2⟩
        have Y3_ : Hd (nB xT xs tC = dC) := ⟨y3⟩
        have Y4_ : Hd (nTag xT xs tC = tC) := ⟨y4⟩
        clear HY HN y1 y2 y3 y4 HB HT HK
        subst y5
        have f5 : (xT == xT) = true := by simp
        obtain ⟨p0, p1, _, _⟩ := cells2 v26 pX _ _ _ X11.out.box
        obtain ⟨q0, q1, _, _⟩ := cells2 v26 pC _ _ _ C11.out.box
        go_wp2_with fail
        clear p0 p1 q0 q1
        refine (implTurn_any xT aX mX cX xs tC _ X11.out.at_ (by omega) ⟨K11.out.tabs⟩).mono ?_
        rewrite [Y4_.out, Y3_.out, Y2_.out]
        rintro e v28 ⟨aZ, mZ, cZ, rfl, hn, hO, _, hB⟩
        have HLZ : Hd (dC.length = mZ) := ⟨hn⟩
        have hmZ : mZ ≤ 81 := by have := HLC.out; have := HLZ.out; omega
        have hat := hO.at_ hn
        have K12 : Hd (CStays w a0 len0 bs (v28.alloc (.cells #[.int .i64 tC, .slice aZ mZ cZ] 28))) := ⟨(K11.out.next hB).next (below_lit v28 _)⟩
        have C12 : Hd (CBox pC tC aC mC cC dC (v28.alloc (.cells #[.int .i64 tC, .slice aZ mZ cZ] 28))) := ⟨(C11.out.below hB).below (below_lit v28 _)⟩
        have X12 : Hd (CBox pX xT aX mX cX xs (v28.alloc (.cells #[.int .i64 tC, .slice aZ mZ cZ] 28))) := ⟨(X11.out.below hB).below (below_lit v28 _)⟩
        have D12 : Hd (CBox pD eT aD mD cD es (v28.alloc (.cells #[.int .i64 tC, .slice aZ mZ cZ] 28))) := ⟨(D11.out.below hB).below (below_lit v28 _)⟩
        clear K11 C11 X11 D11
        have Z12 : Hd (CBox v28.heap.size tC aZ mZ cZ dC (v28.alloc (.cells #[.int .i64 tC, .slice aZ mZ cZ] 28))) := ⟨cBox_new hat⟩
        generalize hd : v28.heap.size = pZ at *
        clear hn hO hat hB
        obtain ⟨p0, p1, _, _⟩ := cells2 (v28.alloc (.cells #[.int .i64 tC, .slice aZ mZ cZ] 28)) pX _ _ _ X12.out.box
        obtain ⟨q0, q1, _, _⟩ := cells2 (v28.alloc (.cells #[.int .i64 tC, .slice aZ mZ cZ] 28)) pC _ _ _ C12.out.box
        go_wp2_with fail
        generalize hw : v28.alloc (.cells #[.int .i64 tC, .slice aZ mZ cZ] 28) = v29 at *
        clear hd hw
        clear p0 p1 q0 q1
        refine (implSameText_any xT aX mX cX xs tC aC mC cC dC _ X12.out.at_ (by omega) C12.out.at_ (by omega) ⟨K12.out.tabs⟩).mono ?_
        rintro e v30 ⟨rfl, hB⟩
        rewrite [Y1_.out]
        have K13 : Hd (CStays w a0 len0 bs v30) := ⟨K12.out.next hB⟩
        have C13 : Hd (CBox pC tC aC mC cC dC v30) := ⟨C12.out.below hB⟩
        have X13 : Hd (CBox pX xT aX mX cX xs v30) := ⟨X12.out.below hB⟩
        have D13 : Hd (CBox pD eT aD mD cD es v30) := ⟨D12.out.below hB⟩
        have Z13 : Hd (CBox pZ tC aZ mZ cZ dC v30) := ⟨Z12.out.below hB⟩
        clear K12 C12 X12 D12 Z12
        clear hB
        obtain ⟨p0, p1, _, _⟩ := cells2 v30 pZ _ _ _ Z13.out.box
        obtain ⟨q0, q1, _, _⟩ := cells2 v30 pC _ _ _ C13.out.box
        go_wp2_with fail
        clear p0 p1 q0 q1
        refine (sameCell_true tC aZ mZ cZ aC mC cC dC _ Z13.out.at_ C13.out.at_).mono ?_
        rintro e v31 ⟨rfl, hB⟩
        have K14 : Hd (CStays w a0 len0 bs v31) := ⟨K13.out.next hB⟩
        have C14 : Hd (CBox pC tC aC mC cC dC v31) := ⟨C13.out.below hB⟩
        have X14 : Hd (CBox pX xT aX mX cX xs v31) := ⟨X13.out.below hB⟩
        have D14 : Hd (CBox pD eT aD mD cD es v31) := ⟨D13.out.below hB⟩
        have Z14 : Hd (CBox pZ tC aZ mZ cZ dC v31) := ⟨Z13.out.below hB⟩
        clear K13 C13 X13 D13 Z13
        clear hB
        obtain ⟨p0, p1, _, _⟩ := cells2 v31 pX _ _ _ X14.out.box
        go_wp2_with fail
        go_ret
        exact ⟨rfl, K14.out.below⟩

set_option maxRecDepth 100000 in
theorem lifted (os : Os) (started : os.Started) (H : Type) (enc : TypeId × Value → H) :
    ReturnsInHanded {} Tryd.checked os 6 .any (fun w args => (Rows.fnCellsSpec.pre enc Tryd.prog Tryd.f6 Rows.fnCellsRow.domain false w args ∧ laidMetH Tryd.prog Rows.fnCellsRow.laid w) ∧ sizedMet enc Tryd.prog Tryd.f6 (OpenSpec.ofChange Rows.fnCellsSpec) false w args)
      (Rows.fnCellsSpec.post enc Tryd.prog Tryd.f6 false true false false) := by
  refine returnsInHanded_of_change_and (C := Tryd.checked) (X := fun w _ => laidMetH Tryd.prog Rows.fnCellsRow.laid w) (fun _ _ _ hh h => h.of_heap hh) own started (by kernel_rfl) Tryd.func6
    (ChangeSpec.witness_shaped (enc := enc) (C := Tryd.checked) (os := os) (X := fun w _ => laidMetH Tryd.prog Rows.fnCellsRow.laid w) false (World.laidAll Tryd.prog os Rows.fnCellsRow.laid) #[.slice none 0 0] 8 (World.laidAll_os _ _ _)
      (World.shaped_of_ZipB (by kernel_rfl) (by kernel_rfl)) (by kernel_rfl) (by kernel_rfl) (by kernel_rfl)
      (by rw [MakeChecks.laidMetH_plain _ _ _ (by kernel_rfl)]; exact laidMet_laidAll _ (by kernel_rfl) (by kernel_rfl))) ?_
  intro W base args ds gs before hval0 hW _ _ hL _
  have hval : ∀ (j : Nat) t v, Tryd.f6.params[j]? = some t → args[j]? = some v → Value.okWide Tryd.prog W .any base t v := hval0
  have hW' := hW
  obtain ⟨p, q, hA0, hV, rfl, hfz, hnd⟩ := hW
  have hA : DataW.TrodAll enc Tryd.prog W 0 (fun _ => true) true Tryd.f6.params.toList args.toList ds p := hA0
  rw [Tryd.params6] at hA hval
  obtain ⟨v0, vs0, d0, ds0, p0, q0, hargs, rfl, rfl, h0, r0⟩ := trodAll_cons hA
  obtain ⟨rfl, rfl, rfl⟩ := trodAll_nil r0
  obtain rfl : args = #[v0] := by cases args; simp_all
  have hV1 : DataW.TrodVars enc Tryd.prog W (fun _ => true) Rows.fnCellsSpec.vars gs q := hV
  obtain ⟨g1, g2, g3, g4, rfl⟩ : ∃ g1 g2 g3 g4, gs = [g1, g2, g3, g4] := by
    match gs, (vars_length hV1 : gs.length = 4) with
    | [g1, g2, g3, g4], _ => exact ⟨g1, g2, g3, g4, rfl⟩
  obtain ⟨a0, len0, cap0, rfl⟩ := okWide_slice Tryd.underlying22 (hval 0 22 v0 rfl rfl)
  have k0 := h0
  have lt0 : ∀ x ∈ p0, x.block < W.heap.size := by obtain ⟨m, hm⟩ := k0; exact DataW.trod_lt m _ _ _ hm
  obtain ⟨z0, w0⟩ : ∃ zs, IsRow .u8 W a0 len0 cap0 zs := by
    obtain ⟨fuel, hf⟩ := h0
    rcases open_ints Tryd.underlying22 Tryd.underlying5 (by kernel_rfl) hf with ⟨hcs, _⟩ | ⟨x, l, c, zs, hcs, _, hl, hm, hz, _, hcell, hwz⟩
    · simp [Value.cells] at hcs
      obtain ⟨rfl, rfl, rfl⟩ := hcs
      exact ⟨[], .inl ⟨rfl, rfl, rfl, rfl⟩⟩
    · simp [Value.cells] at hcs
      obtain ⟨rfl, rfl, rfl⟩ := hcs
      exact ⟨zs, .inr ⟨_, rfl, hl, hm, by simpa using hz, hcell, hwz⟩⟩
  clear hA0 hval0
  refine (walk a0 len0 cap0 z0 W w0 ⟨all_of hL⟩).mono fun e W' ⟨he, hg⟩ => ?_
  subst he
  exact ⟨_, rfl, _, _, _, [], _, q, hW', trodAll_mk1 (shut_bool Tryd.underlying4 _), (trodAll_cons_mk (Below.trod laidOut (by kernel_rfl) (of_decide_eq_true (by kernel_rfl)) k0 hg lt0) trodAll_mk0), Below.trodVars laidOut hg (by kernel_rfl) hV1, hg.frame _, fun h => by cases h⟩

theorem over : Rows.fnCellsRow.holds Tryd.pinned (OpenSpec.ofChange Rows.fnCellsSpec) :=
  OpenClaim.holds_of_wide 6 Tryd.f6 rfl rfl rfl rfl rfl rfl rfl ⟨rfl, rfl, rfl, rfl, rfl⟩ rfl rfl rfl rfl rfl (by kernel_rfl) Tryd.func6 (by kernel_rfl)
    (of_decide_eq_true (by kernel_rfl)) (by unfold Func.isWrapper; first | (rw [if_pos (by decide +kernel)]; kernel_rfl) | (rw [if_neg (by decide +kernel)]; exact ⟨rfl, rfl⟩))
    (fun os started H enc _ => lifted os started H enc)

theorem plain (f : FuncId) (fn : Func) (hf : Tryd.pinned.checked.prog.funcNamed Rows.fnCellsRow.func = some f) (hfn : Tryd.pinned.checked.prog.funcs[f]? = some fn) :
    true = Tryd.pinned.checked.prog.looks [] ∧ ∀ (j : Nat) t, fn.params[j]? = some t → Tryd.pinned.checked.prog.wantsStandIn t = false := by
  obtain rfl : f = 6 := Option.some.inj ((show Tryd.prog.funcNamed Rows.fnCellsRow.func = some 6 by kernel_rfl).symm.trans hf) |>.symm
  obtain rfl : fn = Tryd.f6 := (Option.some.inj (Tryd.func6.symm.trans hfn)).symm
  refine ⟨by kernel_rfl, fun j t ht => ?_⟩
  rw [Tryd.params6] at ht
  have hm : t ∈ [22] := by simpa using Array.mem_of_getElem? ht
  have hall : ([22].all fun u => !Tryd.prog.wantsStandIn u) = true := by kernel_rfl
  exact (show Tryd.prog.wantsStandIn t = false by simpa using List.all_eq_true.1 hall t hm)

end Go.Proofs.YtpafjehphajbhabDoor.fnCells

namespace Go.Proofs.YtpafjehphajbhabDoor
theorem fnCellsCard_holds : Rows.FnCellsCardSaid :=
  Claim7.holds_tied_plain_at .later [] _ _ _ _ fnCells.over (fun _ h => by cases h) (by kernel_rfl) (fun _ h => by cases h) fnCells_row_tie rfl ⟨rfl, rfl⟩ (by kernel_rfl) rfl fnCells.plain (by kernel_rfl)
#print axioms fnCellsCard_holds
end Go.Proofs.YtpafjehphajbhabDoor
