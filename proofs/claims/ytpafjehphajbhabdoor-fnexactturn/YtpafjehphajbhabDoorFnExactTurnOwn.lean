/- At every cell (bytes of at most 1048576) and every number the program answers the turned cell that the specification answers; it leaves its argument as it was and keeps nothing of it; its answer owns its memory, behind another call too. -/
import Derived.Test.YtpafjehphajbhabDoorCards
import Derived.Test.YtpafjehphajbhabDoorTie
import Derived.WalkKit
import Derived.ProofKit
import Derived.OpenShut
import Derived.ShutString
import Derived.ChangeOld
import Derived.Below
import Derived.OpenVars
import Derived.Lay
import Derived.MakeChecks
import Derived.SevenTiedAt
import Derived.Stop.Joined
import Derived.Lib.SmallJoins
import Derived.Test.YtpafjehphajbhabDoorCellM
import Derived.Test.YtpafjehphajbhabDoorCellL
namespace Go.Proofs.YtpafjehphajbhabDoor.fnExactTurn
open Go.ChangeShapes Go.WideShapes Go.ChangeAt Go.RowKit
open Go.ChangeMaps (open_string shut_string)
set_option linter.unusedVariables false

theorem own : ownKnob Tryd.prog.godebug = none := by kernel_rfl
theorem laidOut : laidOutB Tryd.prog = true := by kernel_rfl

def IsRow (k : IntKind) (w : World) (a : Option Addr) (len cap : Nat) (zs : List Int) : Prop :=
  (a = none ∧ len = 0 ∧ cap = 0 ∧ zs = []) ∨
  ∃ x, a = some x ∧ len ≤ cap ∧ cap ≤ maxLen ∧ zs.length = cap ∧ (∀ i, i < zs.length → w.cell? (x.add i) = some (.int k (zs.getD i 0))) ∧ ∀ n ∈ zs, (Lit.int k n).wf = true

set_option maxRecDepth 4000 in
set_option maxHeartbeats 8000000 in
theorem walk (a0_0 : Int) (w0_0 : (Lit.int .i64 a0_0).wf = true) (a0_1 : Option Addr) (len0_1 cap0_1 : Nat) (z0_1 : List Int) (a1 : Int) (w1 : (Lit.int .i64 a1).wf = true) (w : World) (w0_1 : IsRow .u8 w a0_1 len0_1 cap0_1 z0_1) (T : Hd (AllAt w)) :
    Calls Tryd.prog 5 #[.agg #[.int .i64 a0_0, .slice a0_1 len0_1 cap0_1], .int .i64 a1] w fun e w' => e = .returned (.bool true) ∧ Below w.heap.size w w' := by
  clear w1
  obtain ⟨bs, hr⟩ := reads_of_row w0_1
  have hmax : Hd (len0_1 ≤ maxLen) := ⟨by
    rcases w0_1 with ⟨_, h, _⟩ | ⟨_, _, h1, h2, _⟩
    · rw [h]; exact Nat.zero_le _
    · exact Nat.le_trans h1 h2⟩
  have A0 : Hd (ExC w w.heap.size a0_0 a0_1 len0_1 cap0_1 bs (w.alloc (.cells #[.int .i64 a0_0, .slice a0_1 len0_1 cap0_1] 24))) := ⟨alloc_new w _ rfl, hr, below_lit w _, Nat.le_refl _⟩
  have HL0 : Hd (bs.length = len0_1) := ⟨hr.1⟩
  clear w0_0 w0_1 hr
  go_enter Tryd.func5, Tryd.ntmps5
  go_wp2_with fail
  refine (szCell_n a0_0 a0_1 len0_1 cap0_1 1048576 _ hmax ⟨⟨by omega, by omega⟩⟩).mono ?_
  rintro e w1 ⟨rfl, hB1⟩
  have A1 : Hd (ExC w w.heap.size a0_0 a0_1 len0_1 cap0_1 bs w1) := ⟨A0.out.below hB1⟩
  clear hB1 A0 hmax
  by_cases hb0 : (1048576 : Int) < (len0_1 : Int)
  · rewrite [show leftOf 1048576 len0_1 = -1 from if_pos hb0]
    go_wp2_with fail
    go_ret
    exact ⟨rfl, A1.out.bel⟩
  rewrite [show leftOf 1048576 len0_1 = 1048576 - (len0_1 : Int) from if_neg hb0]
  have hsz : ¬ (1048576 : Int) - (len0_1 : Int) < 0 := by omega
  have hlen : len0_1 ≤ 1048576 := by omega
  have hly : (nB a0_0 bs a1).length ≤ 1048576 := by have := nB_len a0_0 a1 bs; have := HL0.out; omega
  obtain ⟨ys, h1⟩ : ∃ x, nB a0_0 bs a1 = x := ⟨_, rfl⟩
  have HY : Hd (nB a0_0 bs a1 = ys) := ⟨h1⟩
  rw [h1] at hly
  have HLEN : Hd (ys.length ≤ 1048576) := ⟨hly⟩
  clear h1 hly
  obtain ⟨ok, h1⟩ : ∃ x, (nOk a0_0 bs a1) = x := ⟨_, rfl⟩
  have HK : Hd ((nOk a0_0 bs a1) = ok) := ⟨h1⟩
  clear h1
  obtain ⟨x, h1⟩ : ∃ x, (nTag a0_0 bs a1) = x := ⟨_, rfl⟩
  have HX : Hd ((nTag a0_0 bs a1) = x) := ⟨h1⟩
  clear h1
  have okf : (ok != ok) = false := by simp
  obtain ⟨p0, p1, _, _⟩ := cells2 w1 w.heap.size _ _ _ A1.out.box
  go_wp2_with fail
  clear p0 p1
  refine (toCell_any a0_0 a0_1 len0_1 cap0_1 bs _ A1.out.reads (by omega)).mono ?_
  rintro e v1 ⟨gt, rfl, hg, hR, hB⟩
  have A2 : Hd (ExC w w.heap.size a0_0 a0_1 len0_1 cap0_1 bs v1) := ⟨(A1.out.below hB)⟩
  have RT : Hd (Row v1 gt bs) := ⟨hR⟩
  clear A1
  clear hg hR hB
  go_wp2_with fail
  refine (specTurn_any a0_0 (some ⟨gt, 0, none⟩) len0_1 len0_1 bs a1 _ (row_at RT.out HL0.out) hlen).mono ?_
  rewrite [HX.out, HY.out, HK.out]
  rintro e v2 ⟨aoW, nW, cW, rfl, hn, hO, hs2, hB⟩
  obtain ⟨gW, hg, hW⟩ := boxC_out (tag := x) hO hn hs2
  have HN : Hd (ys.length = nW) := ⟨hn⟩
  have NEAW : Hd (w.heap.size < gW) := ⟨Nat.lt_of_lt_of_le (lt_of_block A2.out.box) hg⟩
  have NBW : Hd (w.heap.size ≤ gW) := ⟨Nat.le_trans A2.out.bel.size hg⟩
  have A3 : Hd (ExC w w.heap.size a0_0 a0_1 len0_1 cap0_1 bs (v2.alloc (.cells #[.int .i64 x, .slice aoW nW cW] 28))) := ⟨(A2.out.below hB).below (below_lit v2 _)⟩
  have W3 : Hd (BoxC v2.heap.size x aoW gW nW cW ys (v2.alloc (.cells #[.int .i64 x, .slice aoW nW cW] 28))) := ⟨hW⟩
  clear A2
  clear hn hO hs2 hB hg hW
  generalize hd : v2.heap.size = dW at *
  have hnW : nW ≤ 1048576 := by have := HLEN.out; have := HN.out; omega
  clear RT
  obtain ⟨p0, p1, _, _⟩ := cells2 (v2.alloc (.cells #[.int .i64 x, .slice aoW nW cW] 28)) w.heap.size _ _ _ A3.out.box
  go_wp2_with fail
  generalize hw : v2.alloc (.cells #[.int .i64 x, .slice aoW nW cW] 28) = v3 at *
  clear hd hw
  clear p0 p1
  refine (toCell_any a0_0 a0_1 len0_1 cap0_1 bs _ A3.out.reads (by omega)).mono ?_
  rintro e v4 ⟨gX, rfl, hg, hR, hB⟩
  have NEWX : Hd (dW < gX) := ⟨Nat.lt_of_lt_of_le (lt_of_block W3.out.box) hg⟩
  have NEAX : Hd (w.heap.size < gX) := ⟨Nat.lt_of_lt_of_le (lt_of_block A3.out.box) hg⟩
  have W4 : Hd (BoxC dW x aoW gW nW cW ys (v4.alloc (.cells #[.int .i64 a0_0, .slice (some ⟨gX, 0, none⟩) len0_1 len0_1] 28))) := ⟨(W3.out.below hB).below (below_lit v4 _)⟩
  have A4 : Hd (ExC w w.heap.size a0_0 a0_1 len0_1 cap0_1 bs (v4.alloc (.cells #[.int .i64 a0_0, .slice (some ⟨gX, 0, none⟩) len0_1 len0_1] 28))) := ⟨(A3.out.below hB).below (below_lit v4 _)⟩
  have X4 : Hd (BoxC v4.heap.size a0_0 (some ⟨gX, 0, none⟩) gX len0_1 len0_1 bs (v4.alloc (.cells #[.int .i64 a0_0, .slice (some ⟨gX, 0, none⟩) len0_1 len0_1] 28))) := ⟨boxC_row hR HL0.out⟩
  clear W3 A3
  clear hg hR hB
  generalize hd : v4.heap.size = dX at *
  obtain ⟨p0, p1, _, _⟩ := cells2 (v4.alloc (.cells #[.int .i64 a0_0, .slice (some ⟨gX, 0, none⟩) len0_1 len0_1] 28)) dX _ _ _ X4.out.box
  go_wp2_with fail
  generalize hw : v4.alloc (.cells #[.int .i64 a0_0, .slice (some ⟨gX, 0, none⟩) len0_1 len0_1] 28) = v5 at *
  clear hd hw
  clear p0 p1
  refine (implTurn_any a0_0 (some ⟨gX, 0, none⟩) len0_1 len0_1 bs a1 _ X4.out.at_ hlen ⟨T.out.below A4.out.bel⟩).mono ?_
  rewrite [HX.out, HY.out, HK.out]
  rintro e v6 ⟨aoG, nG, cG, rfl, hn, hO, hs2, hB⟩
  have en : nW = nG := HN.out.symm.trans hn
  subst en
  obtain ⟨gG, hg, hW⟩ := boxC_out (tag := x) hO hn hs2
  have NEWG : Hd (dW < gG) := ⟨Nat.lt_of_lt_of_le (lt_of_block W4.out.box) hg⟩
  have NEXG : Hd (dX < gG) := ⟨Nat.lt_of_lt_of_le (lt_of_block X4.out.box) hg⟩
  have NEAG : Hd (w.heap.size < gG) := ⟨Nat.lt_of_lt_of_le (lt_of_block A4.out.box) hg⟩
  have NBG : Hd (w.heap.size ≤ gG) := ⟨Nat.le_trans A4.out.bel.size hg⟩
  have W5 : Hd (BoxC dW x aoW gW nW cW ys (v6.alloc (.cells #[.int .i64 x, .slice aoG nW cG] 28))) := ⟨(W4.out.below hB).below (below_lit v6 _)⟩
  have X5 : Hd (BoxC dX a0_0 (some ⟨gX, 0, none⟩) gX len0_1 len0_1 bs (v6.alloc (.cells #[.int .i64 x, .slice aoG nW cG] 28))) := ⟨(X4.out.below hB).below (below_lit v6 _)⟩
  have A5 : Hd (ExC w w.heap.size a0_0 a0_1 len0_1 cap0_1 bs (v6.alloc (.cells #[.int .i64 x, .slice aoG nW cG] 28))) := ⟨(A4.out.below hB).below (below_lit v6 _)⟩
  have G5 : Hd (BoxC v6.heap.size x aoG gG nW cG ys (v6.alloc (.cells #[.int .i64 x, .slice aoG nW cG] 28))) := ⟨hW⟩
  clear W4 X4 A4
  clear hn hO hs2 hB hg hW
  generalize hd : v6.heap.size = dG at *
  obtain ⟨p0, p1, _, _⟩ := cells2 (v6.alloc (.cells #[.int .i64 x, .slice aoG nW cG] 28)) dG _ _ _ G5.out.box
  obtain ⟨q0, q1, _, _⟩ := cells2 (v6.alloc (.cells #[.int .i64 x, .slice aoG nW cG] 28)) dW _ _ _ W5.out.box
  go_wp2_with fail
  generalize hw : v6.alloc (.cells #[.int .i64 x, .slice aoG nW cG] 28) = v7 at *
  clear hd hw
  clear p0 p1 q0 q1
  refine (eqCell_true x aoG aoW cG cW nW ys _ (by omega) G5.out.reads W5.out.reads).mono ?_
  rintro e v8 ⟨rfl, hB⟩
  have W6 : Hd (BoxC dW x aoW gW nW cW ys v8) := ⟨(W5.out.below hB)⟩
  have X6 : Hd (BoxC dX a0_0 (some ⟨gX, 0, none⟩) gX len0_1 len0_1 bs v8) := ⟨(X5.out.below hB)⟩
  have G6 : Hd (BoxC dG x aoG gG nW cG ys v8) := ⟨(G5.out.below hB)⟩
  have A6 : Hd (ExC w w.heap.size a0_0 a0_1 len0_1 cap0_1 bs v8) := ⟨(A5.out.below hB)⟩
  clear W5 X5 G5 A5
  clear hB
  obtain ⟨p0, p1, _, _⟩ := cells2 v8 dX _ _ _ X6.out.box
  obtain ⟨q0, q1, _, _⟩ := cells2 v8 w.heap.size _ _ _ A6.out.box
  go_wp2_with fail
  have KK1 : Hd (∀ w', Below v8.heap.size v8 w' → (fun w' => (w'.cell? ⟨dX, 0, none⟩ = some (.int .i64 a0_0) ∧ w'.cell? ⟨dX, 1, none⟩ = some (.slice (some ⟨gX, 0, none⟩) len0_1 len0_1)) ∧ w'.cell? ⟨w.heap.size, 0, none⟩ = some (.int .i64 a0_0) ∧ w'.cell? ⟨w.heap.size, 1, none⟩ = some (.slice a0_1 len0_1 cap0_1)) w') := ⟨fun w' hb => ⟨⟨cell_below p0 hb, cell_below p1 hb⟩, cell_below q0 hb, cell_below q1 hb⟩⟩
  go_region_held (fun w' => (w'.cell? ⟨dX, 0, none⟩ = some (.int .i64 a0_0) ∧ w'.cell? ⟨dX, 1, none⟩ = some (.slice (some ⟨gX, 0, none⟩) len0_1 len0_1)) ∧ w'.cell? ⟨w.heap.size, 0, none⟩ = some (.int .i64 a0_0) ∧ w'.cell? ⟨w.heap.size, 1, none⟩ = some (.slice a0_1 len0_1 cap0_1)) (first | assumption | exact KK1.out _ (Below.refl _ v8).drew | exact KK1.out _ hBv10.out | exact KK1.out _ hBv9.out) (first | (go_at_call 19; refine (toCell_any a0_0 a0_1 len0_1 cap0_1 bs _ ?_ ?_).mono ?_; exact A6.out.reads.below rfl (Below.refl _ v8).drew; omega; rintro e v9 ⟨gtv9, rfl, _, hRv9, hbv9⟩; have hBv9 : Hd (Below v8.heap.size v8 v9) := ⟨Below.next (Below.refl _ v8).drew hbv9⟩; have Rv9 : Hd (Row v9 gtv9 bs) := ⟨hRv9⟩; clear hRv9 hbv9) | (go_at_call 21; refine (eqCell_true a0_0 (some ⟨gX, 0, none⟩) (some ⟨gtv9, 0, none⟩) len0_1 len0_1 len0_1 bs _ ?_ ?_ ?_).mono ?_; omega; exact (X6.out.below hBv9.out).reads; exact Rv9.out.reads HL0.out; rintro e v10 ⟨rfl, hbv10⟩; have hBv10 : Hd (Below v8.heap.size v8 v10) := ⟨Below.next hBv9.out hbv10⟩; clear hbv10))
  have W7 : Hd (BoxC dW x aoW gW nW cW ys v10) := ⟨(W6.out.below hBv10.out)⟩
  have X7 : Hd (BoxC dX a0_0 (some ⟨gX, 0, none⟩) gX len0_1 len0_1 bs v10) := ⟨(X6.out.below hBv10.out)⟩
  have G7 : Hd (BoxC dG x aoG gG nW cG ys v10) := ⟨(G6.out.below hBv10.out)⟩
  have A7 : Hd (ExC w w.heap.size a0_0 a0_1 len0_1 cap0_1 bs v10) := ⟨(A6.out.below hBv10.out)⟩
  clear W6 X6 G6 A6
  clear KK1 p0 p1 q0 q1 hBv9 hBv10 Rv9
  obtain ⟨p0, p1, _, _⟩ := cells2 v10 dX _ _ _ X7.out.box
  go_wp2_with fail
  clear p0 p1
  refine (markCell_o a0_0 (some ⟨gX, 0, none⟩) gX len0_1 len0_1 1 bs _ X7.out.len X7.out.row (by omega) (by omega)).mono ?_
  rintro e v11 ⟨rfl, hR, hG⟩
  have W8 : Hd (BoxC dW x aoW gW nW cW ys v11) := ⟨W7.out.grown hG (by have := NEWX.out; omega) (by have := NEWX.out; have := W7.out.lt; omega)⟩
  have G8 : Hd (BoxC dG x aoG gG nW cG ys v11) := ⟨G7.out.grown hG (by have := NEXG.out; have := X7.out.lt; have := G7.out.lt; omega) (by have := NEXG.out; have := X7.out.lt; omega)⟩
  have A8 : Hd (ExC w w.heap.size a0_0 a0_1 len0_1 cap0_1 bs v11) := ⟨A7.out.grown hG (by have := NEAX.out; omega)⟩
  have X8 : Hd (BoxC dX a0_0 (some ⟨gX, 0, none⟩) gX len0_1 len0_1 (marks 1 len0_1) v11) := ⟨X7.out.marked hG hR (marks_length _ _)⟩
  clear W7 X7 G7 A7
  clear hR hG
  clear X8
  have hk0 : ¬ (((1 + len0_1 : Nat) : Int) < 0) := by omega
  obtain ⟨p0, p1, _, _⟩ := cells2 v11 dG _ _ _ G8.out.box
  obtain ⟨q0, q1, _, _⟩ := cells2 v11 dW _ _ _ W8.out.box
  go_wp2_with fail
  clear p0 p1 q0 q1
  refine (eqCell_true x aoG aoW cG cW nW ys _ (by omega) G8.out.reads W8.out.reads).mono ?_
  rintro e v12 ⟨rfl, hB⟩
  have W9 : Hd (BoxC dW x aoW gW nW cW ys v12) := ⟨(W8.out.below hB)⟩
  have G9 : Hd (BoxC dG x aoG gG nW cG ys v12) := ⟨(G8.out.below hB)⟩
  have A9 : Hd (ExC w w.heap.size a0_0 a0_1 len0_1 cap0_1 bs v12) := ⟨(A8.out.below hB)⟩
  clear W8 G8 A8
  clear hB
  obtain ⟨p0, p1, _, _⟩ := cells2 v12 dG _ _ _ G9.out.box
  go_wp2_with fail
  clear p0 p1
  refine (markCell_o x aoG gG nW cG 1 ys _ G9.out.len G9.out.row (by omega) (by omega)).mono ?_
  rintro e v13 ⟨rfl, hR, hG⟩
  have W10 : Hd (BoxC dW x aoW gW nW cW ys v13) := ⟨W9.out.grown hG (by have := NEWG.out; omega) (by have := NEWG.out; have := W9.out.lt; omega)⟩
  have A10 : Hd (ExC w w.heap.size a0_0 a0_1 len0_1 cap0_1 bs v13) := ⟨A9.out.grown hG (by have := NEAG.out; omega)⟩
  have G10 : Hd (BoxC dG x aoG gG nW cG (marks 1 nW) v13) := ⟨G9.out.marked hG hR (marks_length _ _)⟩
  clear W9 G9 A9
  clear hR hG
  obtain ⟨p0, p1, _, _⟩ := cells2 v13 dG _ _ _ G10.out.box
  go_wp2_with fail
  clear p0 p1
  refine (heldCell_o x aoG gG nW cG 1 _ G10.out.row (by omega) (by omega)).mono ?_
  rintro e v14 ⟨rfl, hB⟩
  have W11 : Hd (BoxC dW x aoW gW nW cW ys v14) := ⟨(W10.out.below hB)⟩
  have G11 : Hd (BoxC dG x aoG gG nW cG (marks 1 nW) v14) := ⟨(G10.out.below hB)⟩
  have A11 : Hd (ExC w w.heap.size a0_0 a0_1 len0_1 cap0_1 bs v14) := ⟨(A10.out.below hB)⟩
  clear W10 G10 A10
  clear hB
  have hq : ¬ (((1 + nW : Nat) : Int) < 0) := by omega
  have hqm : (((1 + nW : Nat) : Int) != ((1 + nW : Nat) : Int)) = false := by simp
  obtain ⟨p0, p1, _, _⟩ := cells2 v14 w.heap.size _ _ _ A11.out.box
  go_wp2_with fail
  clear p0 p1
  refine (toCell_any a0_0 a0_1 len0_1 cap0_1 bs _ A11.out.reads (by omega)).mono ?_
  rintro e v15 ⟨gu, rfl, hg, hR, hB⟩
  have W12 : Hd (BoxC dW x aoW gW nW cW ys v15) := ⟨(W11.out.below hB)⟩
  have G12 : Hd (BoxC dG x aoG gG nW cG (marks 1 nW) v15) := ⟨(G11.out.below hB)⟩
  have A12 : Hd (ExC w w.heap.size a0_0 a0_1 len0_1 cap0_1 bs v15) := ⟨(A11.out.below hB)⟩
  have RU : Hd (Row v15 gu bs) := ⟨hR⟩
  clear W11 G11 A11
  clear hg hR hB
  go_wp2_with fail
  refine (implTurn_any a0_0 (some ⟨gu, 0, none⟩) len0_1 len0_1 bs a1 _ (row_at RU.out HL0.out) hlen ⟨T.out.below A12.out.bel⟩).mono ?_
  rewrite [HX.out, HY.out, HK.out]
  rintro e v16 ⟨aoH, nH, cH, rfl, hn, hO, hs2, hB⟩
  have en : nW = nH := HN.out.symm.trans hn
  subst en
  obtain ⟨gH, hg, hW⟩ := boxC_out (tag := x) hO hn hs2
  have NEWH : Hd (dW < gH) := ⟨Nat.lt_of_lt_of_le (lt_of_block W12.out.box) hg⟩
  have NEGH : Hd (dG < gH) := ⟨Nat.lt_of_lt_of_le (lt_of_block G12.out.box) hg⟩
  have NEAH : Hd (w.heap.size < gH) := ⟨Nat.lt_of_lt_of_le (lt_of_block A12.out.box) hg⟩
  have NBH : Hd (w.heap.size ≤ gH) := ⟨Nat.le_trans A12.out.bel.size hg⟩
  have W13 : Hd (BoxC dW x aoW gW nW cW ys (v16.alloc (.cells #[.int .i64 x, .slice aoH nW cH] 28))) := ⟨(W12.out.below hB).below (below_lit v16 _)⟩
  have G13 : Hd (BoxC dG x aoG gG nW cG (marks 1 nW) (v16.alloc (.cells #[.int .i64 x, .slice aoH nW cH] 28))) := ⟨(G12.out.below hB).below (below_lit v16 _)⟩
  have A13 : Hd (ExC w w.heap.size a0_0 a0_1 len0_1 cap0_1 bs (v16.alloc (.cells #[.int .i64 x, .slice aoH nW cH] 28))) := ⟨(A12.out.below hB).below (below_lit v16 _)⟩
  have H13 : Hd (BoxC v16.heap.size x aoH gH nW cH ys (v16.alloc (.cells #[.int .i64 x, .slice aoH nW cH] 28))) := ⟨hW⟩
  clear W12 G12 A12
  clear hn hO hs2 hB hg hW
  generalize hd : v16.heap.size = dH at *
  clear RU
  obtain ⟨p0, p1, _, _⟩ := cells2 (v16.alloc (.cells #[.int .i64 x, .slice aoH nW cH] 28)) dH _ _ _ H13.out.box
  obtain ⟨q0, q1, _, _⟩ := cells2 (v16.alloc (.cells #[.int .i64 x, .slice aoH nW cH] 28)) dW _ _ _ W13.out.box
  go_wp2_with fail
  generalize hw : v16.alloc (.cells #[.int .i64 x, .slice aoH nW cH] 28) = v17 at *
  clear hd hw
  clear p0 p1 q0 q1
  refine (eqCell_true x aoH aoW cH cW nW ys _ (by omega) H13.out.reads W13.out.reads).mono ?_
  rintro e v18 ⟨rfl, hB⟩
  have W14 : Hd (BoxC dW x aoW gW nW cW ys v18) := ⟨(W13.out.below hB)⟩
  have G14 : Hd (BoxC dG x aoG gG nW cG (marks 1 nW) v18) := ⟨(G13.out.below hB)⟩
  have H14 : Hd (BoxC dH x aoH gH nW cH ys v18) := ⟨(H13.out.below hB)⟩
  have A14 : Hd (ExC w w.heap.size a0_0 a0_1 len0_1 cap0_1 bs v18) := ⟨(A13.out.below hB)⟩
  clear W13 G13 H13 A13
  clear hB
  clear H14
  clear W14
  obtain ⟨p0, p1, _, _⟩ := cells2 v18 dG _ _ _ G14.out.box
  go_wp2_with fail
  clear p0 p1
  refine (heldCell_o x aoG gG nW cG 1 _ G14.out.row (by omega) (by omega)).mono ?_
  rintro e v19 ⟨rfl, hB⟩
  have G15 : Hd (BoxC dG x aoG gG nW cG (marks 1 nW) v19) := ⟨(G14.out.below hB)⟩
  have A15 : Hd (ExC w w.heap.size a0_0 a0_1 len0_1 cap0_1 bs v19) := ⟨(A14.out.below hB)⟩
  clear G14 A14
  clear hB
  go_wp2_with fail
  go_ret
  exact ⟨rfl, A15.out.bel⟩

set_option maxRecDepth 100000 in
theorem lifted (os : Os) (started : os.Started) (H : Type) (enc : TypeId × Value → H) :
    ReturnsInHanded {} Tryd.checked os 5 .any (fun w args => (Rows.fnExactTurnSpec.pre enc Tryd.prog Tryd.f5 Rows.fnExactTurnRow.domain false w args ∧ laidMetH Tryd.prog Rows.fnExactTurnRow.laid w) ∧ sizedMet enc Tryd.prog Tryd.f5 (OpenSpec.ofChange Rows.fnExactTurnSpec) false w args)
      (Rows.fnExactTurnSpec.post enc Tryd.prog Tryd.f5 false true false false) := by
  refine returnsInHanded_of_change_and (C := Tryd.checked) (X := fun w _ => laidMetH Tryd.prog Rows.fnExactTurnRow.laid w) (fun _ _ _ hh h => h.of_heap hh) own started (by kernel_rfl) Tryd.func5
    (ChangeSpec.witness_shaped (enc := enc) (C := Tryd.checked) (os := os) (X := fun w _ => laidMetH Tryd.prog Rows.fnExactTurnRow.laid w) false (World.laidAll Tryd.prog os Rows.fnExactTurnRow.laid) #[.agg #[.int .i64 0, .slice none 0 0], .int .i64 0] 8 (World.laidAll_os _ _ _)
      (World.shaped_of_ZipB (by kernel_rfl) (by kernel_rfl)) (by kernel_rfl) (by kernel_rfl) (by kernel_rfl)
      (by rw [MakeChecks.laidMetH_plain _ _ _ (by kernel_rfl)]; exact laidMet_laidAll _ (by kernel_rfl) (by kernel_rfl))) ?_
  intro W base args ds gs before hval0 hW _ _ hL _
  have hval : ∀ (j : Nat) t v, Tryd.f5.params[j]? = some t → args[j]? = some v → Value.okWide Tryd.prog W .any base t v := hval0
  have hW' := hW
  obtain ⟨p, q, hA0, hV, rfl, hfz, hnd⟩ := hW
  have hA : DataW.TrodAll enc Tryd.prog W 0 (fun _ => true) true Tryd.f5.params.toList args.toList ds p := hA0
  rw [Tryd.params5] at hA hval
  obtain ⟨v0, vs0, d0, ds0, p0, q0, hargs, rfl, rfl, h0, r0⟩ := trodAll_cons hA
  obtain ⟨v1, vs1, d1, ds1, p1, q1, rfl, rfl, rfl, h1, r1⟩ := trodAll_cons r0
  obtain ⟨rfl, rfl, rfl⟩ := trodAll_nil r1
  obtain rfl : args = #[v0, v1] := by cases args; simp_all
  have hV1 : DataW.TrodVars enc Tryd.prog W (fun _ => true) Rows.fnExactTurnSpec.vars gs q := hV
  obtain ⟨g1, g2, g3, g4, rfl⟩ : ∃ g1 g2 g3 g4, gs = [g1, g2, g3, g4] := by
    match gs, (vars_length hV1 : gs.length = 4) with
    | [g1, g2, g3, g4], _ => exact ⟨g1, g2, g3, g4, rfl⟩
  have k0 := h0
  have lt0 : ∀ x ∈ p0, x.block < W.heap.size := by obtain ⟨m, hm⟩ := k0; exact DataW.trod_lt m _ _ _ hm
  obtain ⟨u0_0, u0_1, y0_0, y0_1, n0, rfl, rfl, rfl, h0_0, h0_1⟩ := Joins.open_agg2 Tryd.underlying24 (by kernel_rfl) (by kernel_rfl) (hval 0 24 v0 rfl rfl) h0
  obtain ⟨a0_0, g0_0, rfl, w0_0⟩ := DataW.trod_int Tryd.underlying3 h0_0
  simp only [List.cons.injEq, and_true] at g0_0
  subst g0_0
  obtain ⟨a0_1, len0_1, cap0_1, g0_1⟩ := Joins.slice_form Tryd.underlying22 h0_1
  simp only [List.cons.injEq, and_true] at g0_1
  subst g0_1
  obtain ⟨z0_1, w0_1⟩ : ∃ zs, IsRow .u8 W a0_1 len0_1 cap0_1 zs := by
    rcases open_ints Tryd.underlying22 Tryd.underlying5 (by kernel_rfl) h0_1 with ⟨hcs, _⟩ | ⟨x, l, c, zs, hcs, _, hl, hm, hz, _, hcell, hwz⟩
    · simp at hcs
      obtain ⟨rfl, rfl, rfl⟩ := hcs
      exact ⟨[], .inl ⟨rfl, rfl, rfl, rfl⟩⟩
    · simp at hcs
      obtain ⟨rfl, rfl, rfl⟩ := hcs
      exact ⟨zs, .inr ⟨_, rfl, hl, hm, by simpa using hz, hcell, hwz⟩⟩
  obtain ⟨a1, rfl, rfl, rfl, w1⟩ := open_int Tryd.underlying3 (hval 1 3 v1 rfl rfl) h1
  clear hA0 hval0
  refine (walk a0_0 w0_0 a0_1 len0_1 cap0_1 z0_1 a1 w1 W w0_1 ⟨all_of hL⟩).mono fun e W' ⟨he, hg⟩ => ?_
  subst he
  exact ⟨_, rfl, _, _, _, [], _, q, hW', trodAll_mk1 (shut_bool Tryd.underlying4 _), (trodAll_cons_mk (Below.trod laidOut (by kernel_rfl) (of_decide_eq_true (by kernel_rfl)) k0 hg lt0) (trodAll_cons_mk (shut_int Tryd.underlying3 w1) trodAll_mk0)), Below.trodVars laidOut hg (by kernel_rfl) hV1, hg.frame _, fun h => by cases h⟩

theorem over : Rows.fnExactTurnRow.holds Tryd.pinned (OpenSpec.ofChange Rows.fnExactTurnSpec) :=
  OpenClaim.holds_of_wide 5 Tryd.f5 rfl rfl rfl rfl rfl rfl rfl ⟨rfl, rfl, rfl, rfl, rfl⟩ rfl rfl rfl rfl rfl (by kernel_rfl) Tryd.func5 (by kernel_rfl)
    (of_decide_eq_true (by kernel_rfl)) (by unfold Func.isWrapper; first | (rw [if_pos (by decide +kernel)]; kernel_rfl) | (rw [if_neg (by decide +kernel)]; exact ⟨rfl, rfl⟩))
    (fun os started H enc _ => lifted os started H enc)

theorem plain (f : FuncId) (fn : Func) (hf : Tryd.pinned.checked.prog.funcNamed Rows.fnExactTurnRow.func = some f) (hfn : Tryd.pinned.checked.prog.funcs[f]? = some fn) :
    true = Tryd.pinned.checked.prog.looks [] ∧ ∀ (j : Nat) t, fn.params[j]? = some t → Tryd.pinned.checked.prog.wantsStandIn t = false := by
  obtain rfl : f = 5 := Option.some.inj ((show Tryd.prog.funcNamed Rows.fnExactTurnRow.func = some 5 by kernel_rfl).symm.trans hf) |>.symm
  obtain rfl : fn = Tryd.f5 := (Option.some.inj (Tryd.func5.symm.trans hfn)).symm
  refine ⟨by kernel_rfl, fun j t ht => ?_⟩
  rw [Tryd.params5] at ht
  have hm : t ∈ [24, 3] := by simpa using Array.mem_of_getElem? ht
  have hall : ([24, 3].all fun u => !Tryd.prog.wantsStandIn u) = true := by kernel_rfl
  exact (show Tryd.prog.wantsStandIn t = false by simpa using List.all_eq_true.1 hall t hm)

end Go.Proofs.YtpafjehphajbhabDoor.fnExactTurn

namespace Go.Proofs.YtpafjehphajbhabDoor
theorem fnExactTurnCard_holds : Rows.FnExactTurnCardSaid :=
  Claim7.holds_tied_plain_at .later [] _ _ _ _ fnExactTurn.over (fun _ h => by cases h) (by kernel_rfl) (fun _ h => by cases h) fnExactTurn_row_tie rfl ⟨rfl, rfl⟩ (by kernel_rfl) rfl fnExactTurn.plain (by kernel_rfl)
#print axioms fnExactTurnCard_holds
end Go.Proofs.YtpafjehphajbhabDoor
