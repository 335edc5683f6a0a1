/- For every state and every part (at most 1048576 bytes each; else the law answers at once) the program Feed answers as its specification, writes into no argument, and its answer owns its memory; the tables lie as the program lays them. -/
import Derived.Test.YtjbideiifoadkaaDoorCards
import Derived.Test.YtjbideiifoadkaaDoorTie
import Derived.WalkKit
import Derived.ProofKit
import Derived.OpenShut
import Derived.ShutString
import Derived.ChangeOld
import Derived.Below
import Derived.OpenVars
import Derived.Lay
import Derived.MakeChecks
import Derived.SevenTiedAt
import Derived.Stop.Joined
import Derived.Lib.SmallJoins
import Derived.Test.YtjbideiifoadkaaDoorFeedA
import Derived.Test.YtjbideiifoadkaaDoorFeedN
import Derived.Test.YtjbideiifoadkaaDoorLaidA
namespace Go.Proofs.YtjbideiifoadkaaDoor.fnExactFeed
open Go.ChangeShapes Go.WideShapes Go.ChangeAt Go.RowKit
open Go.ChangeMaps (open_string shut_string)
set_option linter.unusedVariables false

theorem own : ownKnob Tryd.prog.godebug = none := by kernel_rfl
theorem laidOut : laidOutB Tryd.prog = true := by kernel_rfl

def IsRow (k : IntKind) (w : World) (a : Option Addr) (len cap : Nat) (zs : List Int) : Prop :=
  (a = none ∧ len = 0 ∧ cap = 0 ∧ zs = []) ∨
  ∃ x, a = some x ∧ len ≤ cap ∧ cap ≤ maxLen ∧ zs.length = cap ∧ (∀ i, i < zs.length → w.cell? (x.add i) = some (.int k (zs.getD i 0))) ∧ ∀ n ∈ zs, (Lit.int k n).wf = true

set_option maxRecDepth 20000 in
set_option maxHeartbeats 16000000 in
theorem walk (a0_0 : Int) (w0_0 : (Lit.int .i64 a0_0).wf = true) (a0_1 : Option Addr) (len0_1 cap0_1 : Nat) (z0_1 : List Int) (a0_2 : Bool) (a1 : Option Addr) (len1 cap1 : Nat) (z1 : List Int) (w : World) (w1 : IsRow .u8 w a1 len1 cap1 z1) (w0_1 : IsRow .u8 w a0_1 len0_1 cap0_1 z0_1) (T : Hd (AllAt w)) :
    Calls Tryd.prog 6 #[.agg #[.int .i64 a0_0, .slice a0_1 len0_1 cap0_1, .bool a0_2], .slice a1 len1 cap1] w fun e w' => e = .returned (.bool true) ∧ Below w.heap.size w w' := by
  obtain ⟨bs, hr⟩ := reads_of_row w0_1
  obtain ⟨bt, ht⟩ := reads_of_row w1
  have hmax : Hd (len0_1 ≤ maxLen) := ⟨by
    rcases w0_1 with ⟨_, h, _⟩ | ⟨_, _, h1, h2, _⟩
    · rw [h]; exact Nat.zero_le _
    · exact Nat.le_trans h1 h2⟩
  have A0 : Hd (ExA w a0_0 a0_1 len0_1 cap0_1 a0_2 bs a1 len1 bt (w.alloc (.cells #[.int .i64 a0_0, .slice a0_1 len0_1 cap0_1, .bool a0_2] 39))) := ⟨alloc_new w _ rfl, hr, ht, below_lit w _⟩
  have HL0 : Hd (bs.length = len0_1) := ⟨hr.1⟩
  have HL1 : Hd (bt.length = len1) := ⟨ht.1⟩
  clear w0_0 w0_1 w1 hr ht
  by_cases hb : 1048576 < len1
  · clear T A0 hmax
    go_enter Tryd.func6, Tryd.ntmps6
    go_wp2_with fail
    go_ret
    exact ⟨rfl, below_lit w _⟩
  · go_enter Tryd.func6, Tryd.ntmps6
    go_wp2_with fail
    refine (szDec_any a0_0 a0_1 len0_1 cap0_1 a0_2 1048576 _ hmax ⟨rfl⟩).mono ?_
    rintro e w1 ⟨rfl, hB1⟩
    have A1 : Hd (ExA w a0_0 a0_1 len0_1 cap0_1 a0_2 bs a1 len1 bt w1) := ⟨A0.out.below hB1⟩
    clear hB1 A0 hmax
    by_cases hb0 : 1048576 < len0_1
    · rewrite [if_pos hb0]
      go_wp2_with fail
      go_ret
      exact ⟨rfl, A1.out.bel⟩
    rewrite [if_neg hb0]
    have hsz : ¬ (1048576 : Int) - (len0_1 : Int) < 0 := by omega
    obtain ⟨hh, h1⟩ : ∃ x, fedH a0_0 bs a0_2 bt = x := ⟨_, rfl⟩
    obtain ⟨fb, h2⟩ : ∃ x, fedB a0_0 bs a0_2 bt = x := ⟨_, rfl⟩
    obtain ⟨ft, h3⟩ : ∃ x, (⟨(fedT a0_0 bs a0_2 bt).toArray⟩ : ByteArray) = x := ⟨_, rfl⟩
    obtain ⟨nh, h4⟩ : ∃ x, hh.length = x := ⟨_, rfl⟩
    have HH : Hd (fedH a0_0 bs a0_2 bt = hh) := ⟨h1⟩
    have HF : Hd (fedB a0_0 bs a0_2 bt = fb) := ⟨h2⟩
    have HT : Hd ((⟨(fedT a0_0 bs a0_2 bt).toArray⟩ : ByteArray) = ft) := ⟨h3⟩
    have HN : Hd (hh.length = nh) := ⟨h4⟩
    have hnh : nh ≤ 2097152 := by rw [← h4, ← h1]; exact fed_size (by rw [HL0.out]; omega)
    clear h1 h2 h3 h4
    obtain ⟨p0, p1, p2, _, _, _⟩ := cells3 w1 w.heap.size _ _ _ _ A1.out.box
    go_wp2_with fail
    refine (toDec_any a0_0 a0_1 len0_1 cap0_1 a0_2 bs _ A1.out.readsA (by omega)).mono ?_
    rintro e w2 ⟨g2, rfl, hg, hR, hB⟩
    have A2 : Hd (ExA w a0_0 a0_1 len0_1 cap0_1 a0_2 bs a1 len1 bt w2) := ⟨A1.out.below hB⟩
    have R2 : Hd (Row w2 g2 bs) := ⟨hR⟩
    clear hg hR hB p0 p1 p2 A1
    go_wp2_with fail
    refine (toByteS_any a1 len1 cap1 bt _ A2.out.readsB (by omega)).mono ?_
    rintro e w3 ⟨rfl, hR, hB⟩
    have A3 : Hd (ExA w a0_0 a0_1 len0_1 cap0_1 a0_2 bs a1 len1 bt w3) := ⟨A2.out.below hB⟩
    have R3 : Hd (Row w3 g2 bs) := ⟨R2.out.below hB⟩
    have S3 : Hd (Row w3 w2.heap.size bt) := ⟨hR⟩
    clear hR hB A2 R2
    generalize w2.heap.size = g3 at *
    go_wp2_with fail
    refine (specFeed_some a0_0 g2 0 len0_1 len0_1 a0_2 bs g3 0 len1 len1 bt _ HL0.out (fun j hj => by rw [Nat.zero_add]; exact R3.out.cell j (by rw [HL0.out]; exact hj)) (by omega) HL1.out (fun j hj => by rw [Nat.zero_add]; exact S3.out.cell j (by rw [HL1.out]; exact hj)) (by omega)).mono ?_
    rintro e w4 ⟨gw, cw, rfl, hg, hO, hB⟩
    rewrite [HH.out] at hO
    rewrite [HH.out, HF.out, HT.out, HN.out]
    have hs4 := A3.out.bel.size
    have hl4 := lt_block A3.out.box
    have A4 : Hd (ExA w a0_0 a0_1 len0_1 cap0_1 a0_2 bs a1 len1 bt (w4.alloc (.cells #[.int .i64 a0_0, .slice (some ⟨gw, 0, none⟩) nh cw, .bool fb] 30))) := ⟨(A3.out.below hB).below (below_lit w4 _)⟩
    have W4 : Hd (BoxD w w4.heap.size a0_0 gw nh cw fb hh (w4.alloc (.cells #[.int .i64 a0_0, .slice (some ⟨gw, 0, none⟩) nh cw, .bool fb] 30))) := ⟨boxD_new hO.row HN.out (by have := hB.size; omega) (by omega)⟩
    have OX : Hd (gw < w4.heap.size ∧ w4.heap.size < (w4.alloc (.cells #[.int .i64 a0_0, .slice (some ⟨gw, 0, none⟩) nh cw, .bool fb] 30)).heap.size) := ⟨hO.lt, by simp⟩
    generalize hd6 : w4.heap.size = d6 at *
    obtain ⟨p0, p1, p2, _, _, _⟩ := cells3 (w4.alloc (.cells #[.int .i64 a0_0, .slice (some ⟨gw, 0, none⟩) nh cw, .bool fb] 30)) w.heap.size _ _ _ _ A4.out.box
    clear hg hO hB hs4 hl4 A3 R3 S3
    go_wp2_with fail
    generalize hw5 : w4.alloc (.cells #[.int .i64 a0_0, .slice (some ⟨gw, 0, none⟩) nh cw, .bool fb] 30) = w5 at *
    clear hd6 hw5
    have O5 : Hd (gw < d6 ∧ d6 < w5.heap.size) := ⟨OX.out⟩
    clear OX
    refine (toDec_any a0_0 a0_1 len0_1 cap0_1 a0_2 bs _ A4.out.readsA (by omega)).mono ?_
    rintro e w6 ⟨gx, rfl, hg, hR, hB⟩
    have hz5 := lt_block A4.out.box
    have A6 : Hd (ExA w a0_0 a0_1 len0_1 cap0_1 a0_2 bs a1 len1 bt (w6.alloc (.cells #[.int .i64 a0_0, .slice (some ⟨gx, 0, none⟩) len0_1 len0_1, .bool a0_2] 30))) := ⟨(A4.out.below hB).below (below_lit w6 _)⟩
    have W6 : Hd (BoxD w d6 a0_0 gw nh cw fb hh (w6.alloc (.cells #[.int .i64 a0_0, .slice (some ⟨gx, 0, none⟩) len0_1 len0_1, .bool a0_2] 30))) := ⟨(W4.out.below hB).below (below_lit w6 _)⟩
    have X6 : Hd (BoxD w w6.heap.size a0_0 gx len0_1 len0_1 a0_2 bs (w6.alloc (.cells #[.int .i64 a0_0, .slice (some ⟨gx, 0, none⟩) len0_1 len0_1, .bool a0_2] 30))) := ⟨boxD_new hR HL0.out (by have := hB.size; omega) (by omega)⟩
    have O6 : Hd (gw < d6 ∧ d6 < gx ∧ gx < w6.heap.size ∧ w6.heap.size < (w6.alloc (.cells #[.int .i64 a0_0, .slice (some ⟨gx, 0, none⟩) len0_1 len0_1, .bool a0_2] 30)).heap.size) := ⟨O5.out.1, by have := O5.out.2; omega, hR.lt, by simp⟩
    generalize hd8 : w6.heap.size = d8 at *
    clear hg hR hB hz5 A4 W4 O5 p0 p1 p2
    go_wp2_with fail
    generalize hw7 : w6.alloc (.cells #[.int .i64 a0_0, .slice (some ⟨gx, 0, none⟩) len0_1 len0_1, .bool a0_2] 30) = w7 at *
    clear hd8 hw7
    refine (toByteS_any a1 len1 cap1 bt _ A6.out.readsB (by omega)).mono ?_
    rintro e w8 ⟨rfl, hR, hB⟩
    have A8 : Hd (ExA w a0_0 a0_1 len0_1 cap0_1 a0_2 bs a1 len1 bt w8) := ⟨A6.out.below hB⟩
    have W8 : Hd (BoxD w d6 a0_0 gw nh cw fb hh w8) := ⟨W6.out.below hB⟩
    have X8 : Hd (BoxD w d8 a0_0 gx len0_1 len0_1 a0_2 bs w8) := ⟨X6.out.below hB⟩
    have Y8 : Hd (Row w8 w7.heap.size bt) := ⟨hR⟩
    have O8 : Hd (gw < d6 ∧ d6 < gx ∧ gx < d8 ∧ d8 < w7.heap.size ∧ w7.heap.size < w8.heap.size) := ⟨O6.out.1, O6.out.2.1, O6.out.2.2.1, O6.out.2.2.2, hR.lt⟩
    generalize hgy : w7.heap.size = gy at *
    clear hR hB O6 hgy A6 W6 X6
    obtain ⟨p0, p1, p2, _, _, _⟩ := cells3 w8 d8 _ _ _ _ X8.out.box
    go_wp2_with fail
    refine (implFeed_any a0_0 (some ⟨gx, 0, none⟩) (some ⟨gy, 0, none⟩) len0_1 len0_1 len1 len1 a0_2 bs bt _ ⟨X8.out.row.reads HL0.out, .inr ⟨gx, 0, rfl, X8.out.row.lt⟩⟩ (Y8.out.reads HL1.out) (by omega) (by omega) ⟨T.out.below A8.out.bel⟩).mono ?_
    rintro e w9 ⟨ag, cg, rfl, hO, hB⟩
    rewrite [HH.out] at hO
    obtain ⟨gg, hRo, hg, hgd⟩ := rowO_of hO hB.size
    rewrite [HH.out, HF.out, HT.out, HN.out]
    have hz8 := lt_block A8.out.box
    have A9 : Hd (ExA w a0_0 a0_1 len0_1 cap0_1 a0_2 bs a1 len1 bt (w9.alloc (.cells #[.int .i64 a0_0, .slice ag nh cg, .bool fb] 30))) := ⟨(A8.out.below hB).below (below_lit w9 _)⟩
    have W9 : Hd (BoxD w d6 a0_0 gw nh cw fb hh (w9.alloc (.cells #[.int .i64 a0_0, .slice ag nh cg, .bool fb] 30))) := ⟨(W8.out.below hB).below (below_lit w9 _)⟩
    have X9 : Hd (BoxD w d8 a0_0 gx len0_1 len0_1 a0_2 bs (w9.alloc (.cells #[.int .i64 a0_0, .slice ag nh cg, .bool fb] 30))) := ⟨(X8.out.below hB).below (below_lit w9 _)⟩
    have Y9 : Hd (Row (w9.alloc (.cells #[.int .i64 a0_0, .slice ag nh cg, .bool fb] 30)) gy bt) := ⟨(Y8.out.below hB).below (below_lit w9 _)⟩
    have G9 : Hd (BoxO w w9.heap.size a0_0 ag gg nh cg fb hh (w9.alloc (.cells #[.int .i64 a0_0, .slice ag nh cg, .bool fb] 30))) := ⟨boxO_new hRo HN.out (by have := hB.size; omega) (by omega)⟩
    have O9 : Hd (gw < d6 ∧ d6 < gx ∧ gx < d8 ∧ d8 < gy ∧ gy < gg ∧ gg ≠ w9.heap.size ∧ gy < w9.heap.size) := ⟨O8.out.1, O8.out.2.1, O8.out.2.2.1, O8.out.2.2.2.1, by have := O8.out.2.2.2.2; omega, hgd, by have := O8.out.2.2.2.2; have := hB.size; omega⟩
    generalize hd10 : w9.heap.size = d10 at *
    clear hg hgd hRo hO hB hz8 O8 p0 p1 p2 A8 W8 X8 Y8
    obtain ⟨p0, p1, p2, _, _, _⟩ := cells3 (w9.alloc (.cells #[.int .i64 a0_0, .slice ag nh cg, .bool fb] 30)) d10 _ _ _ _ G9.out.box
    obtain ⟨q0, q1, q2, _, _, _⟩ := cells3 (w9.alloc (.cells #[.int .i64 a0_0, .slice ag nh cg, .bool fb] 30)) d6 _ _ _ _ W9.out.box
    go_wp2_with fail
    generalize hw10 : w9.alloc (.cells #[.int .i64 a0_0, .slice ag nh cg, .bool fb] 30) = w10 at *
    clear hd10 hw10
    refine (eqDec_true a0_0 ag (some ⟨gw, 0, none⟩) cg cw nh fb hh _ (by omega) (G9.out.row.reads HN.out) (W9.out.row.reads HN.out)).mono ?_
    rintro e w11 ⟨rfl, hB⟩
    have A11 : Hd (ExA w a0_0 a0_1 len0_1 cap0_1 a0_2 bs a1 len1 bt w11) := ⟨A9.out.below hB⟩
    have W11 : Hd (BoxD w d6 a0_0 gw nh cw fb hh w11) := ⟨W9.out.below hB⟩
    have X11 : Hd (BoxD w d8 a0_0 gx len0_1 len0_1 a0_2 bs w11) := ⟨X9.out.below hB⟩
    have Y11 : Hd (Row w11 gy bt) := ⟨Y9.out.below hB⟩
    have G11 : Hd (BoxO w d10 a0_0 ag gg nh cg fb hh w11) := ⟨G9.out.below hB⟩
    clear hB A9 W9 X9 Y9 G9 p0 p1 p2 q0 q1 q2
    obtain ⟨p0, p1, p2, _, _, _⟩ := cells3 w11 d8 _ _ _ _ X11.out.box
    obtain ⟨q0, q1, q2, _, _, _⟩ := cells3 w11 w.heap.size _ _ _ _ A11.out.box
    go_wp2_with fail
    have K11 : Hd (∀ w', Below w11.heap.size w11 w' → (fun w' => (w'.cell? ⟨d8, 0, none⟩ = some (.int .i64 a0_0) ∧ w'.cell? ⟨d8, 1, none⟩ = some (.slice (some ⟨gx, 0, none⟩) len0_1 len0_1) ∧ w'.cell? ⟨d8, 2, none⟩ = some (.bool a0_2)) ∧ w'.cell? ⟨w.heap.size, 0, none⟩ = some (.int .i64 a0_0) ∧ w'.cell? ⟨w.heap.size, 1, none⟩ = some (.slice a0_1 len0_1 cap0_1) ∧ w'.cell? ⟨w.heap.size, 2, none⟩ = some (.bool a0_2)) w') := ⟨fun w' hb => ⟨⟨cell_below p0 hb, cell_below p1 hb, cell_below p2 hb⟩, cell_below q0 hb, cell_below q1 hb, cell_below q2 hb⟩⟩
    go_region_held (fun w' => (w'.cell? ⟨d8, 0, none⟩ = some (.int .i64 a0_0) ∧ w'.cell? ⟨d8, 1, none⟩ = some (.slice (some ⟨gx, 0, none⟩) len0_1 len0_1) ∧ w'.cell? ⟨d8, 2, none⟩ = some (.bool a0_2)) ∧ w'.cell? ⟨w.heap.size, 0, none⟩ = some (.int .i64 a0_0) ∧ w'.cell? ⟨w.heap.size, 1, none⟩ = some (.slice a0_1 len0_1 cap0_1) ∧ w'.cell? ⟨w.heap.size, 2, none⟩ = some (.bool a0_2)) (first | assumption | exact K11.out _ (Below.refl _ w11).drew | exact K11.out _ hB13.out | exact K11.out _ hB12.out) (first | (go_at_call 25; refine (toDec_any a0_0 a0_1 len0_1 cap0_1 a0_2 bs _ ?_ ?_).mono ?_; exact A11.out.readsA.below rfl (Below.refl _ w11).drew; omega; rintro e w12 ⟨gt, rfl, _, hR12, hb12⟩; have hB12 : Hd (Below w11.heap.size w11 w12) := ⟨Below.next (Below.refl _ w11).drew hb12⟩; have R12 : Hd (Row w12 gt bs) := ⟨hR12⟩; clear hR12 hb12) | (go_at_call 26; refine (eqDec_true a0_0 (some ⟨gx, 0, none⟩) (some ⟨gt, 0, none⟩) len0_1 len0_1 len0_1 a0_2 bs _ ?_ ?_ ?_).mono ?_; omega; exact (X11.out.row.below hB12.out).reads HL0.out; exact R12.out.reads HL0.out; rintro e w13 ⟨rfl, hb13⟩; have hB13 : Hd (Below w11.heap.size w11 w13) := ⟨Below.next hB12.out hb13⟩; clear hb13))
    clear p0 p1 p2 q0 q1 q2 K11
    have A13 : Hd (ExA w a0_0 a0_1 len0_1 cap0_1 a0_2 bs a1 len1 bt w13) := ⟨A11.out.below hB13.out⟩
    have W13 : Hd (BoxD w d6 a0_0 gw nh cw fb hh w13) := ⟨W11.out.below hB13.out⟩
    have X13 : Hd (BoxD w d8 a0_0 gx len0_1 len0_1 a0_2 bs w13) := ⟨X11.out.below hB13.out⟩
    have Y13 : Hd (Row w13 gy bt) := ⟨Y11.out.below hB13.out⟩
    have G13 : Hd (BoxO w d10 a0_0 ag gg nh cg fb hh w13) := ⟨G11.out.below hB13.out⟩
    clear hB12 hB13 R12 A11 W11 X11 Y11 G11
    go_wp2_with fail
    refine (toByteS_any a1 len1 cap1 bt _ A13.out.readsB (by omega)).mono ?_
    rintro e w14 ⟨rfl, hR, hB⟩
    have A14 : Hd (ExA w a0_0 a0_1 len0_1 cap0_1 a0_2 bs a1 len1 bt w14) := ⟨A13.out.below hB⟩
    have W14 : Hd (BoxD w d6 a0_0 gw nh cw fb hh w14) := ⟨W13.out.below hB⟩
    have X14 : Hd (BoxD w d8 a0_0 gx len0_1 len0_1 a0_2 bs w14) := ⟨X13.out.below hB⟩
    have Y14 : Hd (Row w14 gy bt) := ⟨Y13.out.below hB⟩
    have G14 : Hd (BoxO w d10 a0_0 ag gg nh cg fb hh w14) := ⟨G13.out.below hB⟩
    have Z14 : Hd (Row w14 w13.heap.size bt) := ⟨hR⟩
    generalize w13.heap.size = gz at *
    clear hR hB A13 W13 X13 Y13 G13
    go_wp2_with fail
    refine (eqByteS_true _ _ _ _ len1 bt _ (by omega) (Y14.out.reads HL1.out) (Z14.out.reads HL1.out)).mono ?_
    rintro e w15 ⟨rfl, hB⟩
    have A15 : Hd (ExA w a0_0 a0_1 len0_1 cap0_1 a0_2 bs a1 len1 bt w15) := ⟨A14.out.below hB⟩
    have W15 : Hd (BoxD w d6 a0_0 gw nh cw fb hh w15) := ⟨W14.out.below hB⟩
    have X15 : Hd (BoxD w d8 a0_0 gx len0_1 len0_1 a0_2 bs w15) := ⟨X14.out.below hB⟩
    have Y15 : Hd (Row w15 gy bt) := ⟨Y14.out.below hB⟩
    have G15 : Hd (BoxO w d10 a0_0 ag gg nh cg fb hh w15) := ⟨G14.out.below hB⟩
    clear hB A14 W14 X14 Y14 G14 Z14
    obtain ⟨p0, p1, p2, _, _, _⟩ := cells3 w15 d8 _ _ _ _ X15.out.box
    go_wp2_with fail
    refine (markDec_any a0_0 gx len0_1 len0_1 1 a0_2 bs _ HL0.out X15.out.row (by omega) (by omega)).mono ?_
    rintro e w16 ⟨rfl, _, hG⟩
    have A16 : Hd (ExA w a0_0 a0_1 len0_1 cap0_1 a0_2 bs a1 len1 bt w16) := ⟨A15.out.grown hG X15.out.wg⟩
    have W16 : Hd (BoxD w d6 a0_0 gw nh cw fb hh w16) := ⟨W15.out.grown hG (by have := O9.out; omega) (by have := O9.out; omega)⟩
    have Y16 : Hd (Row w16 gy bt) := ⟨Y15.out.grown hG (by have := O9.out; omega)⟩
    have G16 : Hd (BoxO w d10 a0_0 ag gg nh cg fb hh w16) := ⟨G15.out.grown hG (by have := O9.out; omega) (by have := O9.out; omega)⟩
    have WY : Hd (w.heap.size < gy) := ⟨by have := O9.out; have := X15.out.wg; omega⟩
    clear hG X15 p0 p1 p2 A15 W15 Y15 G15
    go_wp2_with fail
    refine (markByteS_any gy len1 _ (1 + len0_1) bt _ HL1.out Y16.out (by omega) (by omega)).mono ?_
    rintro e w17 ⟨rfl, _, hG⟩
    have A17 : Hd (ExA w a0_0 a0_1 len0_1 cap0_1 a0_2 bs a1 len1 bt w17) := ⟨A16.out.grown hG WY.out⟩
    have W17 : Hd (BoxD w d6 a0_0 gw nh cw fb hh w17) := ⟨W16.out.grown hG (by have := O9.out; omega) (by have := O9.out; omega)⟩
    have G17 : Hd (BoxO w d10 a0_0 ag gg nh cg fb hh w17) := ⟨G16.out.grown hG (by have := O9.out; omega) (by have := O9.out; omega)⟩
    clear hG Y16 WY A16 W16 G16
    have hk0 : ¬ (((1 + len0_1 + len1 : Nat) : Int) < 0) := by omega
    obtain ⟨p0, p1, p2, _, _, _⟩ := cells3 w17 d10 _ _ _ _ G17.out.box
    obtain ⟨q0, q1, q2, _, _, _⟩ := cells3 w17 d6 _ _ _ _ W17.out.box
    go_wp2_with fail
    refine (eqDec_true a0_0 ag (some ⟨gw, 0, none⟩) cg cw nh fb hh _ (by omega) (G17.out.row.reads HN.out) (W17.out.row.reads HN.out)).mono ?_
    rintro e w18 ⟨rfl, hB⟩
    have A18 : Hd (ExA w a0_0 a0_1 len0_1 cap0_1 a0_2 bs a1 len1 bt w18) := ⟨A17.out.below hB⟩
    have W18 : Hd (BoxD w d6 a0_0 gw nh cw fb hh w18) := ⟨W17.out.below hB⟩
    have G18 : Hd (BoxO w d10 a0_0 ag gg nh cg fb hh w18) := ⟨G17.out.below hB⟩
    clear hB A17 W17 G17 p0 p1 p2 q0 q1 q2
    obtain ⟨p0, p1, p2, _, _, _⟩ := cells3 w18 d10 _ _ _ _ G18.out.box
    go_wp2_with fail
    refine (markDec_o a0_0 ag gg nh cg 1 fb hh _ HN.out G18.out.row (by omega) (by omega)).mono ?_
    rintro e w19 ⟨rfl, hR, hG⟩
    have GM19 : Hd (BoxO w d10 a0_0 ag gg nh cg fb (marks 1 nh) w19) := ⟨G18.out.marked hG hR (marks_length 1 nh) (by have := O9.out; omega)⟩
    have A19 : Hd (ExA w a0_0 a0_1 len0_1 cap0_1 a0_2 bs a1 len1 bt w19) := ⟨A18.out.grown hG G18.out.wg⟩
    have W19 : Hd (BoxD w d6 a0_0 gw nh cw fb hh w19) := ⟨W18.out.grown hG (by have := O9.out; omega) (by have := O9.out; omega)⟩
    clear hG hR G18 p0 p1 p2 A18 W18
    obtain ⟨p0, p1, p2, _, _, _⟩ := cells3 w19 d10 _ _ _ _ GM19.out.box
    go_wp2_with fail
    refine (heldDec_o a0_0 ag gg nh cg 1 fb _ GM19.out.row (by omega) (by omega)).mono ?_
    rintro e w20 ⟨rfl, hB⟩
    have A20 : Hd (ExA w a0_0 a0_1 len0_1 cap0_1 a0_2 bs a1 len1 bt w20) := ⟨A19.out.below hB⟩
    have W20 : Hd (BoxD w d6 a0_0 gw nh cw fb hh w20) := ⟨W19.out.below hB⟩
    have G20 : Hd (BoxO w d10 a0_0 ag gg nh cg fb (marks 1 nh) w20) := ⟨GM19.out.below hB⟩
    clear hB A19 W19 GM19 p0 p1 p2
    have hq : ¬ (((1 + nh : Nat) : Int) < 0) := by omega
    have hqm : (((1 + nh : Nat) : Int) != ((1 + nh : Nat) : Int)) = false := by simp
    obtain ⟨p0, p1, p2, _, _, _⟩ := cells3 w20 w.heap.size _ _ _ _ A20.out.box
    go_wp2_with fail
    refine (toDec_any a0_0 a0_1 len0_1 cap0_1 a0_2 bs _ A20.out.readsA (by omega)).mono ?_
    rintro e w21 ⟨g21, rfl, _, hR, hB⟩
    have R21 : Hd (Row w21 g21 bs) := ⟨hR⟩
    have A21 : Hd (ExA w a0_0 a0_1 len0_1 cap0_1 a0_2 bs a1 len1 bt w21) := ⟨A20.out.below hB⟩
    have W21 : Hd (BoxD w d6 a0_0 gw nh cw fb hh w21) := ⟨W20.out.below hB⟩
    have G21 : Hd (BoxO w d10 a0_0 ag gg nh cg fb (marks 1 nh) w21) := ⟨G20.out.below hB⟩
    clear hB A20 W20 G20 hR p0 p1 p2
    go_wp2_with fail
    refine (toByteS_any a1 len1 cap1 bt _ A21.out.readsB (by omega)).mono ?_
    rintro e w22 ⟨rfl, hR, hB⟩
    have S22 : Hd (Row w22 w21.heap.size bt) := ⟨hR⟩
    have R22 : Hd (Row w22 g21 bs) := ⟨R21.out.below hB⟩
    have A22 : Hd (ExA w a0_0 a0_1 len0_1 cap0_1 a0_2 bs a1 len1 bt w22) := ⟨A21.out.below hB⟩
    have W22 : Hd (BoxD w d6 a0_0 gw nh cw fb hh w22) := ⟨W21.out.below hB⟩
    have G22 : Hd (BoxO w d10 a0_0 ag gg nh cg fb (marks 1 nh) w22) := ⟨G21.out.below hB⟩
    clear hB A21 W21 G21 hR R21
    generalize w21.heap.size = g22 at *
    go_wp2_with fail
    refine (implFeed_any a0_0 (some ⟨g21, 0, none⟩) (some ⟨g22, 0, none⟩) len0_1 len0_1 len1 len1 a0_2 bs bt _ ⟨R22.out.reads HL0.out, .inr ⟨g21, 0, rfl, R22.out.lt⟩⟩ (S22.out.reads HL1.out) (by omega) (by omega) ⟨T.out.below A22.out.bel⟩).mono ?_
    rintro e w23 ⟨ah, ch, rfl, hO, hB⟩
    rewrite [HH.out] at hO
    obtain ⟨gh, hRo, hg, _⟩ := rowO_of hO hB.size
    rewrite [HH.out, HF.out, HT.out, HN.out]
    have hz22 := lt_block A22.out.box
    have A23 : Hd (ExA w a0_0 a0_1 len0_1 cap0_1 a0_2 bs a1 len1 bt (w23.alloc (.cells #[.int .i64 a0_0, .slice ah nh ch, .bool fb] 30))) := ⟨(A22.out.below hB).below (below_lit w23 _)⟩
    have W23 : Hd (BoxD w d6 a0_0 gw nh cw fb hh (w23.alloc (.cells #[.int .i64 a0_0, .slice ah nh ch, .bool fb] 30))) := ⟨(W22.out.below hB).below (below_lit w23 _)⟩
    have G23 : Hd (BoxO w d10 a0_0 ag gg nh cg fb (marks 1 nh) (w23.alloc (.cells #[.int .i64 a0_0, .slice ah nh ch, .bool fb] 30))) := ⟨(G22.out.below hB).below (below_lit w23 _)⟩
    have H23 : Hd (BoxO w w23.heap.size a0_0 ah gh nh ch fb hh (w23.alloc (.cells #[.int .i64 a0_0, .slice ah nh ch, .bool fb] 30))) := ⟨boxO_new hRo HN.out (by have := hB.size; omega) (by omega)⟩
    generalize hd15 : w23.heap.size = d15 at *
    clear hg hRo hO hB hz22 R22 S22 A22 W22 G22
    obtain ⟨p0, p1, p2, _, _, _⟩ := cells3 (w23.alloc (.cells #[.int .i64 a0_0, .slice ah nh ch, .bool fb] 30)) d15 _ _ _ _ H23.out.box
    obtain ⟨q0, q1, q2, _, _, _⟩ := cells3 (w23.alloc (.cells #[.int .i64 a0_0, .slice ah nh ch, .bool fb] 30)) d6 _ _ _ _ W23.out.box
    go_wp2_with fail
    generalize hw24 : w23.alloc (.cells #[.int .i64 a0_0, .slice ah nh ch, .bool fb] 30) = w24 at *
    clear hd15 hw24
    refine (eqDec_true a0_0 ah (some ⟨gw, 0, none⟩) ch cw nh fb hh _ (by omega) (H23.out.row.reads HN.out) (W23.out.row.reads HN.out)).mono ?_
    rintro e w25 ⟨rfl, hB⟩
    have A25 : Hd (ExA w a0_0 a0_1 len0_1 cap0_1 a0_2 bs a1 len1 bt w25) := ⟨A23.out.below hB⟩
    have W25 : Hd (BoxD w d6 a0_0 gw nh cw fb hh w25) := ⟨W23.out.below hB⟩
    have G25 : Hd (BoxO w d10 a0_0 ag gg nh cg fb (marks 1 nh) w25) := ⟨G23.out.below hB⟩
    clear hB A23 W23 G23 p0 p1 p2 q0 q1 q2 H23
    obtain ⟨p0, p1, p2, _, _, _⟩ := cells3 w25 d10 _ _ _ _ G25.out.box
    go_wp2_with fail
    refine (heldDec_o a0_0 ag gg nh cg 1 fb _ G25.out.row (by omega) (by omega)).mono ?_
    rintro e w26 ⟨rfl, hB⟩
    have A26 : Hd (ExA w a0_0 a0_1 len0_1 cap0_1 a0_2 bs a1 len1 bt w26) := ⟨A25.out.below hB⟩
    have W26 : Hd (BoxD w d6 a0_0 gw nh cw fb hh w26) := ⟨W25.out.below hB⟩
    have G26 : Hd (BoxO w d10 a0_0 ag gg nh cg fb (marks 1 nh) w26) := ⟨G25.out.below hB⟩
    clear hB A25 W25 G25 p0 p1 p2
    go_wp2_with fail
    go_ret
    exact ⟨rfl, A26.out.bel⟩

set_option maxRecDepth 100000 in
theorem lifted (os : Os) (started : os.Started) (H : Type) (enc : TypeId × Value → H) :
    ReturnsInHanded {} Tryd.checked os 6 .any (fun w args => (Rows.fnExactFeedSpec.pre enc Tryd.prog Tryd.f6 Rows.fnExactFeedRow.domain false w args ∧ laidMetH Tryd.prog Rows.fnExactFeedRow.laid w) ∧ sizedMet enc Tryd.prog Tryd.f6 (OpenSpec.ofChange Rows.fnExactFeedSpec) false w args)
      (Rows.fnExactFeedSpec.post enc Tryd.prog Tryd.f6 false true false false) := by
  refine returnsInHanded_of_change_and (C := Tryd.checked) (X := fun w _ => laidMetH Tryd.prog Rows.fnExactFeedRow.laid w) (fun _ _ _ hh h => h.of_heap hh) own started (by kernel_rfl) Tryd.func6
    (ChangeSpec.witness_shaped (enc := enc) (C := Tryd.checked) (os := os) (X := fun w _ => laidMetH Tryd.prog Rows.fnExactFeedRow.laid w) false (World.laidAll Tryd.prog os Rows.fnExactFeedRow.laid) #[.agg #[.int .i64 0, .slice none 0 0, .bool false], .slice none 0 0] 8 (World.laidAll_os _ _ _)
      (World.shaped_of_ZipB (by kernel_rfl) (by kernel_rfl)) (by kernel_rfl) (by kernel_rfl) (by kernel_rfl)
      (by rw [MakeChecks.laidMetH_plain _ _ _ (by kernel_rfl)]; exact laidMet_laidAll _ (by kernel_rfl) (by kernel_rfl))) ?_
  intro W base args ds gs before hval0 hW _ _ hL _
  have hval : ∀ (j : Nat) t v, Tryd.f6.params[j]? = some t → args[j]? = some v → Value.okWide Tryd.prog W .any base t v := hval0
  have hW' := hW
  obtain ⟨p, q, hA0, hV, rfl, hfz, hnd⟩ := hW
  have hA : DataW.TrodAll enc Tryd.prog W 0 (fun _ => true) true Tryd.f6.params.toList args.toList ds p := hA0
  rw [Tryd.params6] at hA hval
  obtain ⟨v0, vs0, d0, ds0, p0, q0, hargs, rfl, rfl, h0, r0⟩ := trodAll_cons hA
  obtain ⟨v1, vs1, d1, ds1, p1, q1, rfl, rfl, rfl, h1, r1⟩ := trodAll_cons r0
  obtain ⟨rfl, rfl, rfl⟩ := trodAll_nil r1
  obtain rfl : args = #[v0, v1] := by cases args; simp_all
  have hV1 : DataW.TrodVars enc Tryd.prog W (fun _ => true) Rows.fnExactFeedSpec.vars gs q := hV
  obtain ⟨g1, g2, g3, g4, rfl⟩ : ∃ g1 g2 g3 g4, gs = [g1, g2, g3, g4] := by
    match gs, (vars_length hV1 : gs.length = 4) with
    | [g1, g2, g3, g4], _ => exact ⟨g1, g2, g3, g4, rfl⟩
  obtain ⟨a1, len1, cap1, rfl⟩ := okWide_slice Tryd.underlying22 (hval 1 22 v1 rfl rfl)
  have k1 := h1
  have lt1 : ∀ x ∈ p1, x.block < W.heap.size := by obtain ⟨m, hm⟩ := k1; exact DataW.trod_lt m _ _ _ hm
  obtain ⟨z1, w1⟩ : ∃ zs, IsRow .u8 W a1 len1 cap1 zs := by
    obtain ⟨fuel, hf⟩ := h1
    rcases open_ints Tryd.underlying22 Tryd.underlying5 (by kernel_rfl) hf with ⟨hcs, _⟩ | ⟨x, l, c, zs, hcs, _, hl, hm, hz, _, hcell, hwz⟩
    · simp [Value.cells] at hcs
      obtain ⟨rfl, rfl, rfl⟩ := hcs
      exact ⟨[], .inl ⟨rfl, rfl, rfl, rfl⟩⟩
    · simp [Value.cells] at hcs
      obtain ⟨rfl, rfl, rfl⟩ := hcs
      exact ⟨zs, .inr ⟨_, rfl, hl, hm, by simpa using hz, hcell, hwz⟩⟩
  have k0 := h0
  have lt0 : ∀ x ∈ p0, x.block < W.heap.size := by obtain ⟨m, hm⟩ := k0; exact DataW.trod_lt m _ _ _ hm
  obtain ⟨u0_0, u0_1, u0_2, y0_0, y0_1, y0_2, n0, rfl, rfl, rfl, h0_0, h0_1, h0_2⟩ := Joins.open_agg3 Tryd.underlying39 (by kernel_rfl) (by kernel_rfl) (hval 0 39 v0 rfl rfl) h0
  obtain ⟨a0_0, g0_0, rfl, w0_0⟩ := DataW.trod_int Tryd.underlying3 h0_0
  simp only [List.cons.injEq, and_true] at g0_0
  subst g0_0
  obtain ⟨a0_1, len0_1, cap0_1, g0_1⟩ := Joins.slice_form Tryd.underlying22 h0_1
  simp only [List.cons.injEq, and_true] at g0_1
  subst g0_1
  obtain ⟨z0_1, w0_1⟩ : ∃ zs, IsRow .u8 W a0_1 len0_1 cap0_1 zs := by
    rcases open_ints Tryd.underlying22 Tryd.underlying5 (by kernel_rfl) h0_1 with ⟨hcs, _⟩ | ⟨x, l, c, zs, hcs, _, hl, hm, hz, _, hcell, hwz⟩
    · simp at hcs
      obtain ⟨rfl, rfl, rfl⟩ := hcs
      exact ⟨[], .inl ⟨rfl, rfl, rfl, rfl⟩⟩
    · simp at hcs
      obtain ⟨rfl, rfl, rfl⟩ := hcs
      exact ⟨zs, .inr ⟨_, rfl, hl, hm, by simpa using hz, hcell, hwz⟩⟩
  obtain ⟨a0_2, g0_2, rfl⟩ := DataW.trod_bool Tryd.underlying4 h0_2
  simp only [List.cons.injEq, and_true] at g0_2
  subst g0_2
  clear hA0 hval0
  refine (walk a0_0 w0_0 a0_1 len0_1 cap0_1 z0_1 a0_2 a1 len1 cap1 z1 W w1 w0_1 ⟨all_of hL⟩).mono fun e W' ⟨he, hg⟩ => ?_
  subst he
  exact ⟨_, rfl, _, _, _, [], _, q, hW', trodAll_mk1 (shut_bool Tryd.underlying4 _), (trodAll_cons_mk (Below.trod laidOut (by kernel_rfl) (of_decide_eq_true (by kernel_rfl)) k0 hg lt0) (trodAll_cons_mk (Below.trod laidOut (by kernel_rfl) (of_decide_eq_true (by kernel_rfl)) k1 hg lt1) trodAll_mk0)), Below.trodVars laidOut hg (by kernel_rfl) hV1, hg.frame _, fun h => by cases h⟩

theorem over : Rows.fnExactFeedRow.holds Tryd.pinned (OpenSpec.ofChange Rows.fnExactFeedSpec) :=
  OpenClaim.holds_of_wide 6 Tryd.f6 rfl rfl rfl rfl rfl rfl rfl ⟨rfl, rfl, rfl, rfl, rfl⟩ rfl rfl rfl rfl rfl (by kernel_rfl) Tryd.func6 (by kernel_rfl)
    (of_decide_eq_true (by kernel_rfl)) (by unfold Func.isWrapper; first | (rw [if_pos (by decide +kernel)]; kernel_rfl) | (rw [if_neg (by decide +kernel)]; exact ⟨rfl, rfl⟩))
    (fun os started H enc _ => lifted os started H enc)

theorem plain (f : FuncId) (fn : Func) (hf : Tryd.pinned.checked.prog.funcNamed Rows.fnExactFeedRow.func = some f) (hfn : Tryd.pinned.checked.prog.funcs[f]? = some fn) :
    true = Tryd.pinned.checked.prog.looks [] ∧ ∀ (j : Nat) t, fn.params[j]? = some t → Tryd.pinned.checked.prog.wantsStandIn t = false := by
  obtain rfl : f = 6 := Option.some.inj ((show Tryd.prog.funcNamed Rows.fnExactFeedRow.func = some 6 by kernel_rfl).symm.trans hf) |>.symm
  obtain rfl : fn = Tryd.f6 := (Option.some.inj (Tryd.func6.symm.trans hfn)).symm
  refine ⟨by kernel_rfl, fun j t ht => ?_⟩
  rw [Tryd.params6] at ht
  have hm : t ∈ [39, 22] := by simpa using Array.mem_of_getElem? ht
  have hall : ([39, 22].all fun u => !Tryd.prog.wantsStandIn u) = true := by kernel_rfl
  exact (show Tryd.prog.wantsStandIn t = false by simpa using List.all_eq_true.1 hall t hm)

end Go.Proofs.YtjbideiifoadkaaDoor.fnExactFeed

namespace Go.Proofs.YtjbideiifoadkaaDoor
theorem fnExactFeedCard_holds : Rows.FnExactFeedCardSaid :=
  Claim7.holds_tied_plain_at .later [] _ _ _ _ fnExactFeed.over (fun _ h => by cases h) (by kernel_rfl) (fun _ h => by cases h) fnExactFeed_row_tie rfl ⟨rfl, rfl⟩ (by kernel_rfl) rfl fnExactFeed.plain (by kernel_rfl)
#print axioms fnExactFeedCard_holds
end Go.Proofs.YtjbideiifoadkaaDoor
