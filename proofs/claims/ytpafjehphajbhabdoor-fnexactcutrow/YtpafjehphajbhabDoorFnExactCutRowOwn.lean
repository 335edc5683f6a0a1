/- At every row (its key and its cells together at most 1048576 bytes) the program answers the cut row that the specification answers; it leaves its argument as it was and keeps nothing of it; its answer owns its memory, behind another call too. -/
import Derived.Test.YtpafjehphajbhabDoorCards
import Derived.Test.YtpafjehphajbhabDoorTie
import Derived.WalkKit
import Derived.ProofKit
import Derived.OpenShut
import Derived.ShutString
import Derived.ChangeOld
import Derived.Below
import Derived.OpenVars
import Derived.Lay
import Derived.MakeChecks
import Derived.SevenTiedAt
import Derived.Stop.Joined
import Derived.Lib.SmallJoins
import Derived.Test.YtpafjehphajbhabDoorRowJ
import Derived.Test.YtpafjehphajbhabDoorRowW
import Derived.Test.YtpafjehphajbhabDoorRowL
import Derived.Test.YtpafjehphajbhabDoorRowX
namespace Go.Proofs.YtpafjehphajbhabDoor.fnExactCutRow
open Go.ChangeShapes Go.WideShapes Go.ChangeAt Go.RowKit
open Go.ChangeMaps (open_string shut_string)
set_option linter.unusedVariables false

theorem own : ownKnob Tryd.prog.godebug = none := by kernel_rfl
theorem laidOut : laidOutB Tryd.prog = true := by kernel_rfl

def IsRow (k : IntKind) (w : World) (a : Option Addr) (len cap : Nat) (zs : List Int) : Prop :=
  (a = none ∧ len = 0 ∧ cap = 0 ∧ zs = []) ∨
  ∃ x, a = some x ∧ len ≤ cap ∧ cap ≤ maxLen ∧ zs.length = cap ∧ (∀ i, i < zs.length → w.cell? (x.add i) = some (.int k (zs.getD i 0))) ∧ ∀ n ∈ zs, (Lit.int k n).wf = true

set_option maxRecDepth 4000 in
set_option maxHeartbeats 8000000 in
theorem walk (a0_0 : ByteArray) (w0_0 : a0_0.size ≤ maxLen) (a0_1 : Int) (w0_1 : (Lit.int .i64 a0_1).wf = true) (a0_2 : Option Addr) (len0_2 cap0_2 : Nat) (z0_2 : List Int) (a0_3 : Int) (w0_3 : (Lit.int .i64 a0_3).wf = true) (a0_4 : Option Addr) (len0_4 cap0_4 : Nat) (z0_4 : List Int) (a0_5 : Int) (w0_5 : (Lit.int .i64 a0_5).wf = true) (a0_6 : Bool) (w : World) (w0_2 : IsRow .u8 w a0_2 len0_2 cap0_2 z0_2) (w0_4 : IsRow .u8 w a0_4 len0_4 cap0_4 z0_4) (T : Hd (AllAt w)) :
    Calls Tryd.prog 3 #[.agg #[.string a0_0, .int .i64 a0_1, .slice a0_2 len0_2 cap0_2, .int .i64 a0_3, .slice a0_4 len0_4 cap0_4, .int .i64 a0_5, .bool a0_6]] w fun e w' => e = .returned (.bool true) ∧ Below w.heap.size w w' := by
  obtain ⟨bs, hr1⟩ := reads_of_row w0_2
  obtain ⟨cs, hr2⟩ := reads_of_row w0_4
  have hmax1 : Hd (len0_2 ≤ maxLen) := ⟨by
    rcases w0_2 with ⟨_, h, _⟩ | ⟨_, _, h1, h2, _⟩
    · rw [h]; exact Nat.zero_le _
    · exact Nat.le_trans h1 h2⟩
  have hmax2 : Hd (len0_4 ≤ maxLen) := ⟨by
    rcases w0_4 with ⟨_, h, _⟩ | ⟨_, _, h1, h2, _⟩
    · rw [h]; exact Nat.zero_le _
    · exact Nat.le_trans h1 h2⟩
  have hmk : Hd (a0_0.size ≤ maxLen) := ⟨w0_0⟩
  have A0 : Hd (ExR w w.heap.size a0_0 a0_1 a0_2 len0_2 cap0_2 a0_3 a0_4 len0_4 cap0_4 a0_5 a0_6 bs cs (w.alloc (.cells #[.string a0_0, .int .i64 a0_1, .slice a0_2 len0_2 cap0_2, .int .i64 a0_3, .slice a0_4 len0_4 cap0_4, .int .i64 a0_5, .bool a0_6] 26))) := ⟨alloc_new w _ rfl, hr1, hr2, below_lit w _, Nat.le_refl _⟩
  have HL1 : Hd (bs.length = len0_2) := ⟨hr1.1⟩
  have HL2 : Hd (cs.length = len0_4) := ⟨hr2.1⟩
  clear w0_0 w0_1 w0_2 w0_3 w0_4 w0_5 hr1 hr2
  go_enter Tryd.func3, Tryd.ntmps3
  go_wp2_with fail
  refine (szRow_n a0_0 a0_1 a0_2 len0_2 cap0_2 a0_3 a0_4 len0_4 cap0_4 a0_5 a0_6 _ hmk hmax1 hmax2).mono ?_
  rintro e w1 ⟨rfl, hB⟩
  have A1 : Hd (ExR w w.heap.size a0_0 a0_1 a0_2 len0_2 cap0_2 a0_3 a0_4 len0_4 cap0_4 a0_5 a0_6 bs cs w1) := ⟨A0.out.below hB⟩
  clear hB A0 hmax1 hmax2 hmk
  by_cases hb0 : (1048576 : Int) < (a0_0.size : Int) + (len0_2 : Int) + (len0_4 : Int)
  · rewrite [show leftRow a0_0.size len0_2 len0_4 = -1 from if_pos hb0]
    go_wp2_with fail
    go_ret
    exact ⟨rfl, A1.out.bel⟩
  rewrite [show leftRow a0_0.size len0_2 len0_4 = 1048576 - (a0_0.size : Int) - (len0_2 : Int) - (len0_4 : Int) from if_neg hb0]
  have hsz : ¬ (1048576 : Int) - (a0_0.size : Int) - (len0_2 : Int) - (len0_4 : Int) < 0 := by omega
  have hk : a0_0.size ≤ 1048576 := by omega
  have hlen1 : len0_2 ≤ 1048576 := by omega
  have hlen2 : len0_4 ≤ 1048576 := by omega
  clear hb0
  have hln := cutR_len (r := ⟨a0_0, a0_1, bs, a0_3, cs, a0_5, a0_6⟩) (by show bs.length ≤ _; rw [HL1.out]; omega) (by show cs.length ≤ _; rw [HL2.out]; omega)
  obtain ⟨⟨K, T1, B1, T2, B2, HS, AS⟩, h1⟩ : ∃ r, cutR ⟨a0_0, a0_1, bs, a0_3, cs, a0_5, a0_6⟩ = r := ⟨_, rfl⟩
  have HR : Hd (cutR ⟨a0_0, a0_1, bs, a0_3, cs, a0_5, a0_6⟩ = ⟨K, T1, B1, T2, B2, HS, AS⟩) := ⟨h1⟩
  rw [h1] at hln
  have HLN : Hd (B1.length ≤ 1048576 ∧ B2.length ≤ 1048576) := ⟨hln⟩
  clear h1 hln
  obtain ⟨p0, p1, p2, p3, p4, p5, p6⟩ := cells7 _ w.heap.size _ _ _ _ _ _ _ _ A1.out.box
  go_wp2_with fail
  clear p0 p1 p2 p3 p4 p5 p6
  refine (toRow_any a0_0 a0_1 a0_2 len0_2 cap0_2 a0_3 a0_4 len0_4 cap0_4 a0_5 a0_6 bs cs _ A1.out.reads1 A1.out.reads2 (by omega) (by omega)).mono ?_
  rintro e v1 ⟨g1, g2, rfl, hg1, hg, hR1, hR2, hB⟩
  have A2 : Hd (ExR w w.heap.size a0_0 a0_1 a0_2 len0_2 cap0_2 a0_3 a0_4 len0_4 cap0_4 a0_5 a0_6 bs cs v1) := ⟨(A1.out.below hB)⟩
  clear A1
  have R1 : Hd (Row v1 g1 bs ∧ Row v1 g2 cs) := ⟨hR1, hR2⟩
  clear hg1 hg hR1 hR2 hB
  go_wp2_with fail
  refine (specCutRow_any a0_0 a0_1 (some ⟨g1, 0, none⟩) len0_2 len0_2 a0_3 (some ⟨g2, 0, none⟩) len0_4 len0_4 a0_5 a0_6 bs cs _ hk (row_at R1.out.1 HL1.out) (row_at R1.out.2 HL2.out) hlen1 hlen2).mono ?_
  rewrite [HR.out]
  rintro e v2 h9
  obtain ⟨a1W, n1W, c1W, a2W, n2W, c2W, rfl, hn1, hn2, hA, hsz, hB⟩ := h9.at_
  clear h9
  have HN1 : Hd (B1.length = n1W) := ⟨hn1⟩
  have HN2 : Hd (B2.length = n2W) := ⟨hn2⟩
  obtain ⟨g1W, g2W, hg1, hg2, hW⟩ := boxR_out (k := K) (t1 := T1) (t2 := T2) (has := HS) (asd := AS) hA hsz hn1 hn2
  have NEAW1 : Hd (w.heap.size < g1W) := ⟨Nat.lt_of_lt_of_le (lt_of_block A2.out.box) hg1⟩
  have NEAW2 : Hd (w.heap.size < g2W) := ⟨Nat.lt_of_lt_of_le (lt_of_block A2.out.box) hg2⟩
  have A3 : Hd (ExR w w.heap.size a0_0 a0_1 a0_2 len0_2 cap0_2 a0_3 a0_4 len0_4 cap0_4 a0_5 a0_6 bs cs (v2.alloc (.cells #[.string K, .int .i64 T1, .slice a1W n1W c1W, .int .i64 T2, .slice a2W n2W c2W, .int .i64 HS, .bool AS] 30))) := ⟨(A2.out.below hB).below (below_lit v2 _)⟩
  clear A2
  have W3 : Hd (BoxR v2.heap.size K T1 a1W g1W n1W c1W B1 T2 a2W g2W n2W c2W B2 HS AS (v2.alloc (.cells #[.string K, .int .i64 T1, .slice a1W n1W c1W, .int .i64 T2, .slice a2W n2W c2W, .int .i64 HS, .bool AS] 30))) := ⟨hW⟩
  clear hn1 hn2 hA hsz hB hg1 hg2 hW
  generalize hd : v2.heap.size = dW at *
  have hn1W : n1W ≤ 1048576 := by have := HLN.out.1; have := HN1.out; omega
  have hn2W : n2W ≤ 1048576 := by have := HLN.out.2; have := HN2.out; omega
  clear R1
  obtain ⟨p0, p1, p2, p3, p4, p5, p6⟩ := cells7 _ w.heap.size _ _ _ _ _ _ _ _ A3.out.box
  go_wp2_with fail
  generalize hw : v2.alloc (.cells #[.string K, .int .i64 T1, .slice a1W n1W c1W, .int .i64 T2, .slice a2W n2W c2W, .int .i64 HS, .bool AS] 30) = v3 at *
  clear hd hw
  clear p0 p1 p2 p3 p4 p5 p6
  refine (toRow_any a0_0 a0_1 a0_2 len0_2 cap0_2 a0_3 a0_4 len0_4 cap0_4 a0_5 a0_6 bs cs _ A3.out.reads1 A3.out.reads2 (by omega) (by omega)).mono ?_
  rintro e v4 ⟨g1, g2, rfl, hg1, hg, hR1, hR2, hB⟩
  have hg2 := Nat.le_of_lt (Nat.lt_of_le_of_lt hg1 hg)
  have NEWX1 : Hd (dW < g1) := ⟨Nat.lt_of_lt_of_le (lt_of_block W3.out.box) hg1⟩
  have NEWX2 : Hd (dW < g2) := ⟨Nat.lt_of_lt_of_le (lt_of_block W3.out.box) hg2⟩
  have NEAX1 : Hd (w.heap.size < g1) := ⟨Nat.lt_of_lt_of_le (lt_of_block A3.out.box) hg1⟩
  have NEAX2 : Hd (w.heap.size < g2) := ⟨Nat.lt_of_lt_of_le (lt_of_block A3.out.box) hg2⟩
  have W4 : Hd (BoxR dW K T1 a1W g1W n1W c1W B1 T2 a2W g2W n2W c2W B2 HS AS (v4.alloc (.cells #[.string a0_0, .int .i64 a0_1, .slice (some ⟨g1, 0, none⟩) len0_2 len0_2, .int .i64 a0_3, .slice (some ⟨g2, 0, none⟩) len0_4 len0_4, .int .i64 a0_5, .bool a0_6] 30))) := ⟨(W3.out.below hB).below (below_lit v4 _)⟩
  have A4 : Hd (ExR w w.heap.size a0_0 a0_1 a0_2 len0_2 cap0_2 a0_3 a0_4 len0_4 cap0_4 a0_5 a0_6 bs cs (v4.alloc (.cells #[.string a0_0, .int .i64 a0_1, .slice (some ⟨g1, 0, none⟩) len0_2 len0_2, .int .i64 a0_3, .slice (some ⟨g2, 0, none⟩) len0_4 len0_4, .int .i64 a0_5, .bool a0_6] 30))) := ⟨(A3.out.below hB).below (below_lit v4 _)⟩
  clear W3 A3
  have X4 : Hd (BoxR v4.heap.size a0_0 a0_1 (some ⟨g1, 0, none⟩) g1 len0_2 len0_2 bs a0_3 (some ⟨g2, 0, none⟩) g2 len0_4 len0_4 cs a0_5 a0_6 (v4.alloc (.cells #[.string a0_0, .int .i64 a0_1, .slice (some ⟨g1, 0, none⟩) len0_2 len0_2, .int .i64 a0_3, .slice (some ⟨g2, 0, none⟩) len0_4 len0_4, .int .i64 a0_5, .bool a0_6] 30))) := ⟨boxR_rows hR1 hR2 hg HL1.out HL2.out⟩
  clear hg1 hg hg2 hR1 hR2 hB
  generalize hd : v4.heap.size = dX at *
  obtain ⟨p0, p1, p2, p3, p4, p5, p6⟩ := cells7 _ dX _ _ _ _ _ _ _ _ X4.out.box
  go_wp2_with fail
  generalize hw : v4.alloc (.cells #[.string a0_0, .int .i64 a0_1, .slice (some ⟨g1, 0, none⟩) len0_2 len0_2, .int .i64 a0_3, .slice (some ⟨g2, 0, none⟩) len0_4 len0_4, .int .i64 a0_5, .bool a0_6] 30) = v5 at *
  clear hd hw
  clear p0 p1 p2 p3 p4 p5 p6
  refine (implCutRow_any a0_0 a0_1 (some ⟨g1, 0, none⟩) len0_2 len0_2 a0_3 (some ⟨g2, 0, none⟩) len0_4 len0_4 a0_5 a0_6 bs cs _ hk X4.out.at1 X4.out.at2 hlen1 hlen2 ⟨T.out.below A4.out.bel⟩).mono ?_
  rewrite [HR.out]
  rintro e v6 h9
  obtain ⟨a1G, n1G, c1G, a2G, n2G, c2G, rfl, hn1, hn2, hA, hsz, hB⟩ := h9.at_
  clear h9
  have en : n1W = n1G := HN1.out.symm.trans hn1
  subst en
  have en : n2W = n2G := HN2.out.symm.trans hn2
  subst en
  obtain ⟨g1G, g2G, hg1, hg2, hW⟩ := boxR_out (k := K) (t1 := T1) (t2 := T2) (has := HS) (asd := AS) hA hsz hn1 hn2
  have NEWG1 : Hd (dW < g1G) := ⟨Nat.lt_of_lt_of_le (lt_of_block W4.out.box) hg1⟩
  have NEWG2 : Hd (dW < g2G) := ⟨Nat.lt_of_lt_of_le (lt_of_block W4.out.box) hg2⟩
  have NEXG1 : Hd (dX < g1G) := ⟨Nat.lt_of_lt_of_le (lt_of_block X4.out.box) hg1⟩
  have NEXG2 : Hd (dX < g2G) := ⟨Nat.lt_of_lt_of_le (lt_of_block X4.out.box) hg2⟩
  have NEAG1 : Hd (w.heap.size < g1G) := ⟨Nat.lt_of_lt_of_le (lt_of_block A4.out.box) hg1⟩
  have NEAG2 : Hd (w.heap.size < g2G) := ⟨Nat.lt_of_lt_of_le (lt_of_block A4.out.box) hg2⟩
  have W5 : Hd (BoxR dW K T1 a1W g1W n1W c1W B1 T2 a2W g2W n2W c2W B2 HS AS (v6.alloc (.cells #[.string K, .int .i64 T1, .slice a1G n1W c1G, .int .i64 T2, .slice a2G n2W c2G, .int .i64 HS, .bool AS] 30))) := ⟨(W4.out.below hB).below (below_lit v6 _)⟩
  have X5 : Hd (BoxR dX a0_0 a0_1 (some ⟨g1, 0, none⟩) g1 len0_2 len0_2 bs a0_3 (some ⟨g2, 0, none⟩) g2 len0_4 len0_4 cs a0_5 a0_6 (v6.alloc (.cells #[.string K, .int .i64 T1, .slice a1G n1W c1G, .int .i64 T2, .slice a2G n2W c2G, .int .i64 HS, .bool AS] 30))) := ⟨(X4.out.below hB).below (below_lit v6 _)⟩
  have A5 : Hd (ExR w w.heap.size a0_0 a0_1 a0_2 len0_2 cap0_2 a0_3 a0_4 len0_4 cap0_4 a0_5 a0_6 bs cs (v6.alloc (.cells #[.string K, .int .i64 T1, .slice a1G n1W c1G, .int .i64 T2, .slice a2G n2W c2G, .int .i64 HS, .bool AS] 30))) := ⟨(A4.out.below hB).below (below_lit v6 _)⟩
  clear W4 X4 A4
  have G5 : Hd (BoxR v6.heap.size K T1 a1G g1G n1W c1G B1 T2 a2G g2G n2W c2G B2 HS AS (v6.alloc (.cells #[.string K, .int .i64 T1, .slice a1G n1W c1G, .int .i64 T2, .slice a2G n2W c2G, .int .i64 HS, .bool AS] 30))) := ⟨hW⟩
  clear hn1 hn2 hA hsz hB hg1 hg2 hW
  generalize hd : v6.heap.size = dG at *
  obtain ⟨p0, p1, p2, p3, p4, p5, p6⟩ := cells7 _ dG _ _ _ _ _ _ _ _ G5.out.box
  obtain ⟨q0, q1, q2, q3, q4, q5, q6⟩ := cells7 _ dW _ _ _ _ _ _ _ _ W5.out.box
  go_wp2_with fail
  generalize hw : v6.alloc (.cells #[.string K, .int .i64 T1, .slice a1G n1W c1G, .int .i64 T2, .slice a2G n2W c2G, .int .i64 HS, .bool AS] 30) = v7 at *
  clear hd hw
  clear p0 p1 p2 p3 p4 p5 p6 q0 q1 q2 q3 q4 q5 q6
  refine (eqRow_true K T1 a1G n1W c1G T2 a2G n2W c2G HS AS a1W c1W a2W c2W B1 B2 _ (by omega) (by omega) G5.out.reads1 G5.out.reads2 W5.out.reads1 W5.out.reads2).mono ?_
  rintro e v8 ⟨rfl, hB⟩
  have W6 : Hd (BoxR dW K T1 a1W g1W n1W c1W B1 T2 a2W g2W n2W c2W B2 HS AS v8) := ⟨(W5.out.below hB)⟩
  have X6 : Hd (BoxR dX a0_0 a0_1 (some ⟨g1, 0, none⟩) g1 len0_2 len0_2 bs a0_3 (some ⟨g2, 0, none⟩) g2 len0_4 len0_4 cs a0_5 a0_6 v8) := ⟨(X5.out.below hB)⟩
  have G6 : Hd (BoxR dG K T1 a1G g1G n1W c1G B1 T2 a2G g2G n2W c2G B2 HS AS v8) := ⟨(G5.out.below hB)⟩
  have A6 : Hd (ExR w w.heap.size a0_0 a0_1 a0_2 len0_2 cap0_2 a0_3 a0_4 len0_4 cap0_4 a0_5 a0_6 bs cs v8) := ⟨(A5.out.below hB)⟩
  clear W5 X5 G5 A5
  clear hB
  obtain ⟨p0, p1, p2, p3, p4, p5, p6⟩ := cells7 _ dX _ _ _ _ _ _ _ _ X6.out.box
  obtain ⟨q0, q1, q2, q3, q4, q5, q6⟩ := cells7 _ w.heap.size _ _ _ _ _ _ _ _ A6.out.box
  go_wp2_with fail
  clear p0 p1 p2 p3 p4 p5 p6 q0 q1 q2 q3 q4 q5 q6
  have KK : Hd (∀ w', Below v8.heap.size v8 w' → (Cells7 dX a0_0 a0_1 (some ⟨g1, 0, none⟩) len0_2 len0_2 a0_3 (some ⟨g2, 0, none⟩) len0_4 len0_4 a0_5 a0_6 w' ∧ Cells7 w.heap.size a0_0 a0_1 a0_2 len0_2 cap0_2 a0_3 a0_4 len0_4 cap0_4 a0_5 a0_6 w')) := ⟨fun w' hb => ⟨cells7_at (X6.out.below hb).box, cells7_at (A6.out.below hb).box⟩⟩
  have KD : Hd (Below v8.heap.size v8 v8.drew) := ⟨(Below.refl _ v8).drew⟩
  obtain ⟨⟨p0, p1, p2, p3, p4, p5, p6⟩, q0, q1, q2, q3, q4, q5, q6⟩ := KK.out _ (Below.refl _ v8)
  go_region_held (fun w' => (w'.cell? ⟨dX, 0, none⟩ = some (.string a0_0) ∧ w'.cell? ⟨dX, 1, none⟩ = some (.int .i64 a0_1) ∧ w'.cell? ⟨dX, 2, none⟩ = some (.slice (some ⟨g1, 0, none⟩) len0_2 len0_2) ∧ w'.cell? ⟨dX, 3, none⟩ = some (.int .i64 a0_3) ∧ w'.cell? ⟨dX, 4, none⟩ = some (.slice (some ⟨g2, 0, none⟩) len0_4 len0_4) ∧ w'.cell? ⟨dX, 5, none⟩ = some (.int .i64 a0_5) ∧ w'.cell? ⟨dX, 6, none⟩ = some (.bool a0_6)) ∧ (w'.cell? ⟨w.heap.size, 0, none⟩ = some (.string a0_0) ∧ w'.cell? ⟨w.heap.size, 1, none⟩ = some (.int .i64 a0_1) ∧ w'.cell? ⟨w.heap.size, 2, none⟩ = some (.slice a0_2 len0_2 cap0_2) ∧ w'.cell? ⟨w.heap.size, 3, none⟩ = some (.int .i64 a0_3) ∧ w'.cell? ⟨w.heap.size, 4, none⟩ = some (.slice a0_4 len0_4 cap0_4) ∧ w'.cell? ⟨w.heap.size, 5, none⟩ = some (.int .i64 a0_5) ∧ w'.cell? ⟨w.heap.size, 6, none⟩ = some (.bool a0_6))) (first | (with_reducible exact KK.out _ D2.out) | (with_reducible exact KK.out _ D1.out) | (with_reducible exact KK.out _ KD.out)) (first | (have G1 := D1; clear G1; go_at_call 12; refine (eqRow_true a0_0 a0_1 (some ⟨g1, 0, none⟩) len0_2 len0_2 a0_3 (some ⟨g2, 0, none⟩) len0_4 len0_4 a0_5 a0_6 (some ⟨y1, 0, none⟩) len0_2 (some ⟨y2, 0, none⟩) len0_4 bs cs _ ?_ ?_ ?_ ?_ ?_ ?_).mono ?_; omega; omega; exact (X6.out.below D1.out).reads1; exact (X6.out.below D1.out).reads2; exact R1.out.1.reads HL1.out; exact R1.out.2.reads HL2.out; rintro e v10 ⟨rfl, hb⟩; have D2 : Hd (Below v8.heap.size v8 v10) := ⟨Below.next D1.out hb⟩; clear hb) | (go_at_call 10; refine (toRow_any a0_0 a0_1 a0_2 len0_2 cap0_2 a0_3 a0_4 len0_4 cap0_4 a0_5 a0_6 bs cs _ ?_ ?_ ?_ ?_).mono ?_; exact A6.out.reads1.below rfl KD.out; exact A6.out.reads2.below rfl KD.out; omega; omega; rintro e v9 ⟨y1, y2, rfl, _, _, hR1, hR2, hb⟩; have D1 : Hd (Below v8.heap.size v8 v9) := ⟨Below.next KD.out hb⟩; have R1 : Hd (Row v9 y1 bs ∧ Row v9 y2 cs) := ⟨hR1, hR2⟩; clear hR1 hR2 hb))
  have W7 : Hd (BoxR dW K T1 a1W g1W n1W c1W B1 T2 a2W g2W n2W c2W B2 HS AS v10) := ⟨(W6.out.below D2.out)⟩
  have X7 : Hd (BoxR dX a0_0 a0_1 (some ⟨g1, 0, none⟩) g1 len0_2 len0_2 bs a0_3 (some ⟨g2, 0, none⟩) g2 len0_4 len0_4 cs a0_5 a0_6 v10) := ⟨(X6.out.below D2.out)⟩
  have G7 : Hd (BoxR dG K T1 a1G g1G n1W c1G B1 T2 a2G g2G n2W c2G B2 HS AS v10) := ⟨(G6.out.below D2.out)⟩
  have A7 : Hd (ExR w w.heap.size a0_0 a0_1 a0_2 len0_2 cap0_2 a0_3 a0_4 len0_4 cap0_4 a0_5 a0_6 bs cs v10) := ⟨(A6.out.below D2.out)⟩
  clear W6 X6 G6 A6
  clear KK KD D1 D2 R1
  clear p0 p1 p2 p3 p4 p5 p6 q0 q1 q2 q3 q4 q5 q6
  obtain ⟨p0, p1, p2, p3, p4, p5, p6⟩ := cells7 _ dX _ _ _ _ _ _ _ _ X7.out.box
  go_wp2_with fail
  clear p0 p1 p2 p3 p4 p5 p6
  refine (markRow_o a0_0 a0_1 (some ⟨g1, 0, none⟩) g1 len0_2 len0_2 a0_3 (some ⟨g2, 0, none⟩) g2 len0_4 len0_4 a0_5 a0_6 1 bs cs _ X7.out.len1 X7.out.len2 X7.out.row1 X7.out.row2 X7.out.ne (Nat.lt_trans X7.out.lt1 (lt_of_block X7.out.box)) (Nat.lt_trans X7.out.lt2 (lt_of_block X7.out.box)) (by omega) (by omega) (by omega)).mono ?_
  rintro e v11 ⟨rfl, hR1, hR2, hM⟩
  have W8 : Hd (BoxR dW K T1 a1W g1W n1W c1W B1 T2 a2W g2W n2W c2W B2 HS AS v11) := ⟨W7.out.other hM (by have := NEWX1.out; have := NEWX2.out; have := W7.out.lt1; have := W7.out.lt2; omega) (by have := NEWX1.out; have := NEWX2.out; have := W7.out.lt1; have := W7.out.lt2; omega) (by have := NEWX1.out; have := NEWX2.out; have := W7.out.lt1; have := W7.out.lt2; omega) (by have := NEWX1.out; have := NEWX2.out; have := W7.out.lt1; have := W7.out.lt2; omega) (by have := NEWX1.out; have := NEWX2.out; have := W7.out.lt1; have := W7.out.lt2; omega) (by have := NEWX1.out; have := NEWX2.out; have := W7.out.lt1; have := W7.out.lt2; omega)⟩
  have G8 : Hd (BoxR dG K T1 a1G g1G n1W c1G B1 T2 a2G g2G n2W c2G B2 HS AS v11) := ⟨G7.out.other hM (by have := NEXG1.out; have := NEXG2.out; have := G7.out.lt1; have := G7.out.lt2; have := X7.out.lt1; have := X7.out.lt2; omega) (by have := NEXG1.out; have := NEXG2.out; have := G7.out.lt1; have := G7.out.lt2; have := X7.out.lt1; have := X7.out.lt2; omega) (by have := NEXG1.out; have := NEXG2.out; have := G7.out.lt1; have := G7.out.lt2; have := X7.out.lt1; have := X7.out.lt2; omega) (by have := NEXG1.out; have := NEXG2.out; have := G7.out.lt1; have := G7.out.lt2; have := X7.out.lt1; have := X7.out.lt2; omega) (by have := NEXG1.out; have := NEXG2.out; have := G7.out.lt1; have := G7.out.lt2; have := X7.out.lt1; have := X7.out.lt2; omega) (by have := NEXG1.out; have := NEXG2.out; have := G7.out.lt1; have := G7.out.lt2; have := X7.out.lt1; have := X7.out.lt2; omega)⟩
  have A8 : Hd (ExR w w.heap.size a0_0 a0_1 a0_2 len0_2 cap0_2 a0_3 a0_4 len0_4 cap0_4 a0_5 a0_6 bs cs v11) := ⟨A7.out.marked hM (by have := NEAX1.out; omega) (by have := NEAX2.out; omega)⟩
  have X8 : Hd (BoxR dX a0_0 a0_1 (some ⟨g1, 0, none⟩) g1 len0_2 len0_2 ((marks 1 len0_2)) a0_3 (some ⟨g2, 0, none⟩) g2 len0_4 len0_4 ((marks (1 + len0_2) len0_4)) a0_5 a0_6 v11) := ⟨X7.out.marked hM hR1 hR2 (marks_length _ _) (marks_length _ _)⟩
  clear hR1 hR2 hM W7 X7 G7 A7
  clear X8
  have hk0 : ¬ (((1 + len0_2 + len0_4 : Nat) : Int) < 0) := by omega
  obtain ⟨p0, p1, p2, p3, p4, p5, p6⟩ := cells7 _ dG _ _ _ _ _ _ _ _ G8.out.box
  obtain ⟨q0, q1, q2, q3, q4, q5, q6⟩ := cells7 _ dW _ _ _ _ _ _ _ _ W8.out.box
  go_wp2_with fail
  clear p0 p1 p2 p3 p4 p5 p6 q0 q1 q2 q3 q4 q5 q6
  refine (eqRow_true K T1 a1G n1W c1G T2 a2G n2W c2G HS AS a1W c1W a2W c2W B1 B2 _ (by omega) (by omega) G8.out.reads1 G8.out.reads2 W8.out.reads1 W8.out.reads2).mono ?_
  rintro e v12 ⟨rfl, hB⟩
  have W9 : Hd (BoxR dW K T1 a1W g1W n1W c1W B1 T2 a2W g2W n2W c2W B2 HS AS v12) := ⟨(W8.out.below hB)⟩
  have G9 : Hd (BoxR dG K T1 a1G g1G n1W c1G B1 T2 a2G g2G n2W c2G B2 HS AS v12) := ⟨(G8.out.below hB)⟩
  have A9 : Hd (ExR w w.heap.size a0_0 a0_1 a0_2 len0_2 cap0_2 a0_3 a0_4 len0_4 cap0_4 a0_5 a0_6 bs cs v12) := ⟨(A8.out.below hB)⟩
  clear W8 G8 A8
  clear hB
  obtain ⟨p0, p1, p2, p3, p4, p5, p6⟩ := cells7 _ dG _ _ _ _ _ _ _ _ G9.out.box
  go_wp2_with fail
  clear p0 p1 p2 p3 p4 p5 p6
  refine (markRow_o K T1 a1G g1G n1W c1G T2 a2G g2G n2W c2G HS AS 1 B1 B2 _ G9.out.len1 G9.out.len2 G9.out.row1 G9.out.row2 G9.out.ne (Nat.lt_trans G9.out.lt1 (lt_of_block G9.out.box)) (Nat.lt_trans G9.out.lt2 (lt_of_block G9.out.box)) (by omega) (by omega) (by omega)).mono ?_
  rintro e v13 ⟨rfl, hR1, hR2, hM⟩
  have W10 : Hd (BoxR dW K T1 a1W g1W n1W c1W B1 T2 a2W g2W n2W c2W B2 HS AS v13) := ⟨W9.out.other hM (by have := NEWG1.out; have := NEWG2.out; have := W9.out.lt1; have := W9.out.lt2; omega) (by have := NEWG1.out; have := NEWG2.out; have := W9.out.lt1; have := W9.out.lt2; omega) (by have := NEWG1.out; have := NEWG2.out; have := W9.out.lt1; have := W9.out.lt2; omega) (by have := NEWG1.out; have := NEWG2.out; have := W9.out.lt1; have := W9.out.lt2; omega) (by have := NEWG1.out; have := NEWG2.out; have := W9.out.lt1; have := W9.out.lt2; omega) (by have := NEWG1.out; have := NEWG2.out; have := W9.out.lt1; have := W9.out.lt2; omega)⟩
  have A10 : Hd (ExR w w.heap.size a0_0 a0_1 a0_2 len0_2 cap0_2 a0_3 a0_4 len0_4 cap0_4 a0_5 a0_6 bs cs v13) := ⟨A9.out.marked hM (by have := NEAG1.out; omega) (by have := NEAG2.out; omega)⟩
  have G10 : Hd (BoxR dG K T1 a1G g1G n1W c1G ((marks 1 n1W)) T2 a2G g2G n2W c2G ((marks (1 + n1W) n2W)) HS AS v13) := ⟨G9.out.marked hM hR1 hR2 (marks_length _ _) (marks_length _ _)⟩
  clear hR1 hR2 hM W9 G9 A9
  obtain ⟨p0, p1, p2, p3, p4, p5, p6⟩ := cells7 _ dG _ _ _ _ _ _ _ _ G10.out.box
  go_wp2_with fail
  clear p0 p1 p2 p3 p4 p5 p6
  refine (heldRow_o K T1 a1G g1G n1W c1G T2 a2G g2G n2W c2G HS AS 1 _ G10.out.row1 G10.out.row2 (by omega) (by omega) (by omega)).mono ?_
  rintro e v14 ⟨rfl, hB⟩
  have W11 : Hd (BoxR dW K T1 a1W g1W n1W c1W B1 T2 a2W g2W n2W c2W B2 HS AS v14) := ⟨(W10.out.below hB)⟩
  have G11 : Hd (BoxR dG K T1 a1G g1G n1W c1G ((marks 1 n1W)) T2 a2G g2G n2W c2G ((marks (1 + n1W) n2W)) HS AS v14) := ⟨(G10.out.below hB)⟩
  have A11 : Hd (ExR w w.heap.size a0_0 a0_1 a0_2 len0_2 cap0_2 a0_3 a0_4 len0_4 cap0_4 a0_5 a0_6 bs cs v14) := ⟨(A10.out.below hB)⟩
  clear W10 G10 A10
  clear hB
  have hq : ¬ (((1 + n1W + n2W : Nat) : Int) < 0) := by omega
  have hqm : (((1 + n1W + n2W : Nat) : Int) != ((1 + n1W + n2W : Nat) : Int)) = false := by simp
  obtain ⟨p0, p1, p2, p3, p4, p5, p6⟩ := cells7 _ w.heap.size _ _ _ _ _ _ _ _ A11.out.box
  go_wp2_with fail
  clear p0 p1 p2 p3 p4 p5 p6
  refine (toRow_any a0_0 a0_1 a0_2 len0_2 cap0_2 a0_3 a0_4 len0_4 cap0_4 a0_5 a0_6 bs cs _ A11.out.reads1 A11.out.reads2 (by omega) (by omega)).mono ?_
  rintro e v15 ⟨g1, g2, rfl, hg1, hg, hR1, hR2, hB⟩
  have W12 : Hd (BoxR dW K T1 a1W g1W n1W c1W B1 T2 a2W g2W n2W c2W B2 HS AS v15) := ⟨(W11.out.below hB)⟩
  have G12 : Hd (BoxR dG K T1 a1G g1G n1W c1G ((marks 1 n1W)) T2 a2G g2G n2W c2G ((marks (1 + n1W) n2W)) HS AS v15) := ⟨(G11.out.below hB)⟩
  have A12 : Hd (ExR w w.heap.size a0_0 a0_1 a0_2 len0_2 cap0_2 a0_3 a0_4 len0_4 cap0_4 a0_5 a0_6 bs cs v15) := ⟨(A11.out.below hB)⟩
  clear W11 G11 A11
  have R2 : Hd (Row v15 g1 bs ∧ Row v15 g2 cs) := ⟨hR1, hR2⟩
  clear hg1 hg hR1 hR2 hB
  go_wp2_with fail
  refine (implCutRow_any a0_0 a0_1 (some ⟨g1, 0, none⟩) len0_2 len0_2 a0_3 (some ⟨g2, 0, none⟩) len0_4 len0_4 a0_5 a0_6 bs cs _ hk (row_at R2.out.1 HL1.out) (row_at R2.out.2 HL2.out) hlen1 hlen2 ⟨T.out.below A12.out.bel⟩).mono ?_
  rewrite [HR.out]
  rintro e v16 h9
  obtain ⟨a1H, n1H, c1H, a2H, n2H, c2H, rfl, hn1, hn2, hA, hsz, hB⟩ := h9.at_
  clear h9
  have en : n1W = n1H := HN1.out.symm.trans hn1
  subst en
  have en : n2W = n2H := HN2.out.symm.trans hn2
  subst en
  obtain ⟨g1H, g2H, hg1, hg2, hW⟩ := boxR_out (k := K) (t1 := T1) (t2 := T2) (has := HS) (asd := AS) hA hsz hn1 hn2
  have NEWH1 : Hd (dW < g1H) := ⟨Nat.lt_of_lt_of_le (lt_of_block W12.out.box) hg1⟩
  have NEWH2 : Hd (dW < g2H) := ⟨Nat.lt_of_lt_of_le (lt_of_block W12.out.box) hg2⟩
  have NEGH1 : Hd (dG < g1H) := ⟨Nat.lt_of_lt_of_le (lt_of_block G12.out.box) hg1⟩
  have NEGH2 : Hd (dG < g2H) := ⟨Nat.lt_of_lt_of_le (lt_of_block G12.out.box) hg2⟩
  have NEAH1 : Hd (w.heap.size < g1H) := ⟨Nat.lt_of_lt_of_le (lt_of_block A12.out.box) hg1⟩
  have NEAH2 : Hd (w.heap.size < g2H) := ⟨Nat.lt_of_lt_of_le (lt_of_block A12.out.box) hg2⟩
  have W13 : Hd (BoxR dW K T1 a1W g1W n1W c1W B1 T2 a2W g2W n2W c2W B2 HS AS (v16.alloc (.cells #[.string K, .int .i64 T1, .slice a1H n1W c1H, .int .i64 T2, .slice a2H n2W c2H, .int .i64 HS, .bool AS] 30))) := ⟨(W12.out.below hB).below (below_lit v16 _)⟩
  have G13 : Hd (BoxR dG K T1 a1G g1G n1W c1G ((marks 1 n1W)) T2 a2G g2G n2W c2G ((marks (1 + n1W) n2W)) HS AS (v16.alloc (.cells #[.string K, .int .i64 T1, .slice a1H n1W c1H, .int .i64 T2, .slice a2H n2W c2H, .int .i64 HS, .bool AS] 30))) := ⟨(G12.out.below hB).below (below_lit v16 _)⟩
  have A13 : Hd (ExR w w.heap.size a0_0 a0_1 a0_2 len0_2 cap0_2 a0_3 a0_4 len0_4 cap0_4 a0_5 a0_6 bs cs (v16.alloc (.cells #[.string K, .int .i64 T1, .slice a1H n1W c1H, .int .i64 T2, .slice a2H n2W c2H, .int .i64 HS, .bool AS] 30))) := ⟨(A12.out.below hB).below (below_lit v16 _)⟩
  clear W12 G12 A12
  have H13 : Hd (BoxR v16.heap.size K T1 a1H g1H n1W c1H B1 T2 a2H g2H n2W c2H B2 HS AS (v16.alloc (.cells #[.string K, .int .i64 T1, .slice a1H n1W c1H, .int .i64 T2, .slice a2H n2W c2H, .int .i64 HS, .bool AS] 30))) := ⟨hW⟩
  clear hn1 hn2 hA hsz hB hg1 hg2 hW
  generalize hd : v16.heap.size = dH at *
  clear R2
  obtain ⟨p0, p1, p2, p3, p4, p5, p6⟩ := cells7 _ dH _ _ _ _ _ _ _ _ H13.out.box
  obtain ⟨q0, q1, q2, q3, q4, q5, q6⟩ := cells7 _ dW _ _ _ _ _ _ _ _ W13.out.box
  go_wp2_with fail
  generalize hw : v16.alloc (.cells #[.string K, .int .i64 T1, .slice a1H n1W c1H, .int .i64 T2, .slice a2H n2W c2H, .int .i64 HS, .bool AS] 30) = v17 at *
  clear hd hw
  clear p0 p1 p2 p3 p4 p5 p6 q0 q1 q2 q3 q4 q5 q6
  refine (eqRow_true K T1 a1H n1W c1H T2 a2H n2W c2H HS AS a1W c1W a2W c2W B1 B2 _ (by omega) (by omega) H13.out.reads1 H13.out.reads2 W13.out.reads1 W13.out.reads2).mono ?_
  rintro e v18 ⟨rfl, hB⟩
  have W14 : Hd (BoxR dW K T1 a1W g1W n1W c1W B1 T2 a2W g2W n2W c2W B2 HS AS v18) := ⟨(W13.out.below hB)⟩
  have G14 : Hd (BoxR dG K T1 a1G g1G n1W c1G ((marks 1 n1W)) T2 a2G g2G n2W c2G ((marks (1 + n1W) n2W)) HS AS v18) := ⟨(G13.out.below hB)⟩
  have H14 : Hd (BoxR dH K T1 a1H g1H n1W c1H B1 T2 a2H g2H n2W c2H B2 HS AS v18) := ⟨(H13.out.below hB)⟩
  have A14 : Hd (ExR w w.heap.size a0_0 a0_1 a0_2 len0_2 cap0_2 a0_3 a0_4 len0_4 cap0_4 a0_5 a0_6 bs cs v18) := ⟨(A13.out.below hB)⟩
  clear W13 G13 H13 A13
  clear hB
  clear H14
  clear W14
  obtain ⟨p0, p1, p2, p3, p4, p5, p6⟩ := cells7 _ dG _ _ _ _ _ _ _ _ G14.out.box
  go_wp2_with fail
  clear p0 p1 p2 p3 p4 p5 p6
  refine (heldRow_o K T1 a1G g1G n1W c1G T2 a2G g2G n2W c2G HS AS 1 _ G14.out.row1 G14.out.row2 (by omega) (by omega) (by omega)).mono ?_
  rintro e v19 ⟨rfl, hB⟩
  have G15 : Hd (BoxR dG K T1 a1G g1G n1W c1G ((marks 1 n1W)) T2 a2G g2G n2W c2G ((marks (1 + n1W) n2W)) HS AS v19) := ⟨(G14.out.below hB)⟩
  have A15 : Hd (ExR w w.heap.size a0_0 a0_1 a0_2 len0_2 cap0_2 a0_3 a0_4 len0_4 cap0_4 a0_5 a0_6 bs cs v19) := ⟨(A14.out.below hB)⟩
  clear G14 A14
  clear hB
  go_wp2_with fail
  go_ret
  exact ⟨rfl, A15.out.bel⟩

set_option maxRecDepth 100000 in
theorem lifted (os : Os) (started : os.Started) (H : Type) (enc : TypeId × Value → H) :
    ReturnsInHanded {} Tryd.checked os 3 .any (fun w args => (Rows.fnExactCutRowSpec.pre enc Tryd.prog Tryd.f3 Rows.fnExactCutRowRow.domain false w args ∧ laidMetH Tryd.prog Rows.fnExactCutRowRow.laid w) ∧ sizedMet enc Tryd.prog Tryd.f3 (OpenSpec.ofChange Rows.fnExactCutRowSpec) false w args)
      (Rows.fnExactCutRowSpec.post enc Tryd.prog Tryd.f3 false true false false) := by
  refine returnsInHanded_of_change_and (C := Tryd.checked) (X := fun w _ => laidMetH Tryd.prog Rows.fnExactCutRowRow.laid w) (fun _ _ _ hh h => h.of_heap hh) own started (by kernel_rfl) Tryd.func3
    (ChangeSpec.witness_shaped (enc := enc) (C := Tryd.checked) (os := os) (X := fun w _ => laidMetH Tryd.prog Rows.fnExactCutRowRow.laid w) false (World.laidAll Tryd.prog os Rows.fnExactCutRowRow.laid) #[.agg #[.string ByteArray.empty, .int .i64 0, .slice none 0 0, .int .i64 0, .slice none 0 0, .int .i64 0, .bool false]] 8 (World.laidAll_os _ _ _)
      (World.shaped_of_ZipB (by kernel_rfl) (by kernel_rfl)) (by kernel_rfl) (by kernel_rfl) (by kernel_rfl)
      (by rw [MakeChecks.laidMetH_plain _ _ _ (by kernel_rfl)]; exact laidMet_laidAll _ (by kernel_rfl) (by kernel_rfl))) ?_
  intro W base args ds gs before hval0 hW _ _ hL _
  have hval : ∀ (j : Nat) t v, Tryd.f3.params[j]? = some t → args[j]? = some v → Value.okWide Tryd.prog W .any base t v := hval0
  have hW' := hW
  obtain ⟨p, q, hA0, hV, rfl, hfz, hnd⟩ := hW
  have hA : DataW.TrodAll enc Tryd.prog W 0 (fun _ => true) true Tryd.f3.params.toList args.toList ds p := hA0
  rw [Tryd.params3] at hA hval
  obtain ⟨v0, vs0, d0, ds0, p0, q0, hargs, rfl, rfl, h0, r0⟩ := trodAll_cons hA
  obtain ⟨rfl, rfl, rfl⟩ := trodAll_nil r0
  obtain rfl : args = #[v0] := by cases args; simp_all
  have hV1 : DataW.TrodVars enc Tryd.prog W (fun _ => true) Rows.fnExactCutRowSpec.vars gs q := hV
  obtain ⟨g1, g2, g3, g4, rfl⟩ : ∃ g1 g2 g3 g4, gs = [g1, g2, g3, g4] := by
    match gs, (vars_length hV1 : gs.length = 4) with
    | [g1, g2, g3, g4], _ => exact ⟨g1, g2, g3, g4, rfl⟩
  have k0 := h0
  have lt0 : ∀ x ∈ p0, x.block < W.heap.size := by obtain ⟨m, hm⟩ := k0; exact DataW.trod_lt m _ _ _ hm
  obtain ⟨u0_0, u0_1, u0_2, u0_3, u0_4, u0_5, u0_6, rfl, ⟨_, _, h0_0⟩, ⟨_, _, h0_1⟩, ⟨_, _, h0_2⟩, ⟨_, _, h0_3⟩, ⟨_, _, h0_4⟩, ⟨_, _, h0_5⟩, ⟨_, _, h0_6⟩⟩ := open_row Tryd.underlying26 Tryd.underlying24 Tryd.underlying24 ⟨rfl, rfl, rfl, rfl, rfl, rfl, rfl⟩ ⟨by kernel_rfl, by kernel_rfl, by kernel_rfl, by kernel_rfl, by kernel_rfl, by kernel_rfl, by kernel_rfl⟩ (by kernel_rfl) (hval 0 26 v0 rfl rfl) h0
  obtain ⟨a0_0, g0_0, rfl, w0_0⟩ := DataW.trod_string Tryd.underlying9 h0_0
  simp only [List.cons.injEq, and_true] at g0_0
  subst g0_0
  obtain ⟨a0_1, g0_1, rfl, w0_1⟩ := DataW.trod_int Tryd.underlying3 h0_1
  simp only [List.cons.injEq, and_true] at g0_1
  subst g0_1
  obtain ⟨a0_2, len0_2, cap0_2, g0_2⟩ := Joins.slice_form Tryd.underlying22 h0_2
  simp only [List.cons.injEq, and_true] at g0_2
  subst g0_2
  obtain ⟨z0_2, w0_2⟩ : ∃ zs, IsRow .u8 W a0_2 len0_2 cap0_2 zs := by
    rcases open_ints Tryd.underlying22 Tryd.underlying5 (by kernel_rfl) h0_2 with ⟨hcs, _⟩ | ⟨x, l, c, zs, hcs, _, hl, hm, hz, _, hcell, hwz⟩
    · simp at hcs
      obtain ⟨rfl, rfl, rfl⟩ := hcs
      exact ⟨[], .inl ⟨rfl, rfl, rfl, rfl⟩⟩
    · simp at hcs
      obtain ⟨rfl, rfl, rfl⟩ := hcs
      exact ⟨zs, .inr ⟨_, rfl, hl, hm, by simpa using hz, hcell, hwz⟩⟩
  obtain ⟨a0_3, g0_3, rfl, w0_3⟩ := DataW.trod_int Tryd.underlying3 h0_3
  simp only [List.cons.injEq, and_true] at g0_3
  subst g0_3
  obtain ⟨a0_4, len0_4, cap0_4, g0_4⟩ := Joins.slice_form Tryd.underlying22 h0_4
  simp only [List.cons.injEq, and_true] at g0_4
  subst g0_4
  obtain ⟨z0_4, w0_4⟩ : ∃ zs, IsRow .u8 W a0_4 len0_4 cap0_4 zs := by
    rcases open_ints Tryd.underlying22 Tryd.underlying5 (by kernel_rfl) h0_4 with ⟨hcs, _⟩ | ⟨x, l, c, zs, hcs, _, hl, hm, hz, _, hcell, hwz⟩
    · simp at hcs
      obtain ⟨rfl, rfl, rfl⟩ := hcs
      exact ⟨[], .inl ⟨rfl, rfl, rfl, rfl⟩⟩
    · simp at hcs
      obtain ⟨rfl, rfl, rfl⟩ := hcs
      exact ⟨zs, .inr ⟨_, rfl, hl, hm, by simpa using hz, hcell, hwz⟩⟩
  obtain ⟨a0_5, g0_5, rfl, w0_5⟩ := DataW.trod_int Tryd.underlying3 h0_5
  simp only [List.cons.injEq, and_true] at g0_5
  subst g0_5
  obtain ⟨a0_6, g0_6, rfl⟩ := DataW.trod_bool Tryd.underlying4 h0_6
  simp only [List.cons.injEq, and_true] at g0_6
  subst g0_6
  clear hA0 hval0
  refine (walk a0_0 w0_0 a0_1 w0_1 a0_2 len0_2 cap0_2 z0_2 a0_3 w0_3 a0_4 len0_4 cap0_4 z0_4 a0_5 w0_5 a0_6 W w0_2 w0_4 ⟨all_of hL⟩).mono fun e W' ⟨he, hg⟩ => ?_
  subst he
  exact ⟨_, rfl, _, _, _, [], _, q, hW', trodAll_mk1 (shut_bool Tryd.underlying4 _), (trodAll_cons_mk (Below.trod laidOut (by kernel_rfl) (of_decide_eq_true (by kernel_rfl)) k0 hg lt0) trodAll_mk0), Below.trodVars laidOut hg (by kernel_rfl) hV1, hg.frame _, fun h => by cases h⟩

theorem over : Rows.fnExactCutRowRow.holds Tryd.pinned (OpenSpec.ofChange Rows.fnExactCutRowSpec) :=
  OpenClaim.holds_of_wide 3 Tryd.f3 rfl rfl rfl rfl rfl rfl rfl ⟨rfl, rfl, rfl, rfl, rfl⟩ rfl rfl rfl rfl rfl (by kernel_rfl) Tryd.func3 (by kernel_rfl)
    (of_decide_eq_true (by kernel_rfl)) (by unfold Func.isWrapper; first | (rw [if_pos (by decide +kernel)]; kernel_rfl) | (rw [if_neg (by decide +kernel)]; exact ⟨rfl, rfl⟩))
    (fun os started H enc _ => lifted os started H enc)

theorem plain (f : FuncId) (fn : Func) (hf : Tryd.pinned.checked.prog.funcNamed Rows.fnExactCutRowRow.func = some f) (hfn : Tryd.pinned.checked.prog.funcs[f]? = some fn) :
    true = Tryd.pinned.checked.prog.looks [] ∧ ∀ (j : Nat) t, fn.params[j]? = some t → Tryd.pinned.checked.prog.wantsStandIn t = false := by
  obtain rfl : f = 3 := Option.some.inj ((show Tryd.prog.funcNamed Rows.fnExactCutRowRow.func = some 3 by kernel_rfl).symm.trans hf) |>.symm
  obtain rfl : fn = Tryd.f3 := (Option.some.inj (Tryd.func3.symm.trans hfn)).symm
  refine ⟨by kernel_rfl, fun j t ht => ?_⟩
  rw [Tryd.params3] at ht
  have hm : t ∈ [26] := by first | simpa using Array.mem_of_getElem? ht | (have h := Array.mem_of_getElem? ht; simp at h ⊢; rcases h with h | h | h | h <;> simp [h])
  have hall : ([26].all fun u => !Tryd.prog.wantsStandIn u) = true := by kernel_rfl
  exact (show Tryd.prog.wantsStandIn t = false by simpa using List.all_eq_true.1 hall t hm)

end Go.Proofs.YtpafjehphajbhabDoor.fnExactCutRow

namespace Go.Proofs.YtpafjehphajbhabDoor
theorem fnExactCutRowCard_holds : Rows.FnExactCutRowCardSaid :=
  Claim7.holds_tied_plain_at .later [] _ _ _ _ fnExactCutRow.over (fun _ h => by cases h) (by kernel_rfl) (fun _ h => by cases h) fnExactCutRow_row_tie rfl ⟨rfl, rfl⟩ (by kernel_rfl) rfl fnExactCutRow.plain (by kernel_rfl)
#print axioms fnExactCutRowCard_holds
end Go.Proofs.YtpafjehphajbhabDoor
