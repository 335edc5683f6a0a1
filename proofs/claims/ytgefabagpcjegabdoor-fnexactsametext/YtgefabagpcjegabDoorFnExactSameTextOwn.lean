/- At every two cells (bytes of at most 1048576 together) the program answers what the specification answers on whether both say the same, and leaves its arguments as they were. -/
import Derived.Test.YtgefabagpcjegabDoorCards
import Derived.Test.YtgefabagpcjegabDoorTie
import Derived.WalkKit
import Derived.ProofKit
import Derived.OpenShut
import Derived.ShutString
import Derived.ChangeOld
import Derived.Below
import Derived.OpenVars
import Derived.Lay
import Derived.MakeChecks
import Derived.SevenTiedAt
import Derived.Stop.Joined
import Derived.Lib.SmallJoins
import Derived.Test.YtgefabagpcjegabDoorCellM
import Derived.Test.YtgefabagpcjegabDoorCellL
namespace Go.Proofs.YtgefabagpcjegabDoor.fnExactSameText
open Go.ChangeShapes Go.WideShapes Go.ChangeAt Go.RowKit
open Go.ChangeMaps (open_string shut_string)
set_option linter.unusedVariables false

theorem own : ownKnob Tryd.prog.godebug = none := by kernel_rfl
theorem laidOut : laidOutB Tryd.prog = true := by kernel_rfl

def IsRow (k : IntKind) (w : World) (a : Option Addr) (len cap : Nat) (zs : List Int) : Prop :=
  (a = none ∧ len = 0 ∧ cap = 0 ∧ zs = []) ∨
  ∃ x, a = some x ∧ len ≤ cap ∧ cap ≤ maxLen ∧ zs.length = cap ∧ (∀ i, i < zs.length → w.cell? (x.add i) = some (.int k (zs.getD i 0))) ∧ ∀ n ∈ zs, (Lit.int k n).wf = true

set_option maxRecDepth 4000 in
set_option maxHeartbeats 8000000 in
theorem walk (a0_0 : Int) (w0_0 : (Lit.int .i64 a0_0).wf = true) (a0_1 : Option Addr) (len0_1 cap0_1 : Nat) (z0_1 : List Int) (a1_0 : Int) (w1_0 : (Lit.int .i64 a1_0).wf = true) (a1_1 : Option Addr) (len1_1 cap1_1 : Nat) (z1_1 : List Int) (w : World) (w0_1 : IsRow .u8 w a0_1 len0_1 cap0_1 z0_1) (w1_1 : IsRow .u8 w a1_1 len1_1 cap1_1 z1_1) (T : Hd (AllAt w)) :
    Calls Tryd.prog 3 #[.agg #[.int .i64 a0_0, .slice a0_1 len0_1 cap0_1], .agg #[.int .i64 a1_0, .slice a1_1 len1_1 cap1_1]] w fun e w' => e = .returned (.bool true) ∧ Below w.heap.size w w' := by
  obtain ⟨bs, hr0⟩ := reads_of_row w0_1
  have hmax0 : Hd (len0_1 ≤ maxLen) := ⟨by
    rcases w0_1 with ⟨_, h, _⟩ | ⟨_, _, h1, h2, _⟩
    · rw [h]; exact Nat.zero_le _
    · exact Nat.le_trans h1 h2⟩
  have HL0 : Hd (bs.length = len0_1) := ⟨hr0.1⟩
  obtain ⟨cs, hr1⟩ := reads_of_row w1_1
  have hmax1 : Hd (len1_1 ≤ maxLen) := ⟨by
    rcases w1_1 with ⟨_, h, _⟩ | ⟨_, _, h1, h2, _⟩
    · rw [h]; exact Nat.zero_le _
    · exact Nat.le_trans h1 h2⟩
  have HL1 : Hd (cs.length = len1_1) := ⟨hr1.1⟩
  have A0 : Hd (ExC w w.heap.size a0_0 a0_1 len0_1 cap0_1 bs ((w.alloc (.cells #[.int .i64 a0_0, .slice a0_1 len0_1 cap0_1] 24)).alloc (.cells #[.int .i64 a1_0, .slice a1_1 len1_1 cap1_1] 24))) := ⟨(laid2 w _ _).1, hr0, below_lit2 w _ _, Nat.le_refl _⟩
  have E0 : Hd (ExC w (w.heap.size + 1) a1_0 a1_1 len1_1 cap1_1 cs ((w.alloc (.cells #[.int .i64 a0_0, .slice a0_1 len0_1 cap0_1] 24)).alloc (.cells #[.int .i64 a1_0, .slice a1_1 len1_1 cap1_1] 24))) := ⟨(laid2 w _ _).2, hr1, below_lit2 w _ _, by omega⟩
  clear w0_0 w0_1 w1_0 w1_1 hr0 hr1
  go_enter Tryd.func3, Tryd.ntmps3
  go_wp2_with fail
  refine (szCell_n a0_0 a0_1 len0_1 cap0_1 1048576 _ hmax0 ⟨⟨by omega, by omega⟩⟩).mono ?_
  rintro e v1 ⟨rfl, hB⟩
  have A1 : Hd (ExC w w.heap.size a0_0 a0_1 len0_1 cap0_1 bs v1) := ⟨A0.out.below hB⟩
  have E1 : Hd (ExC w (w.heap.size + 1) a1_0 a1_1 len1_1 cap1_1 cs v1) := ⟨E0.out.below hB⟩
  clear hB A0 E0 hmax0
  by_cases hb0 : (1048576 : Int) < (len0_1 : Int)
  · rewrite [show leftOf 1048576 len0_1 = -1 from if_pos hb0]
    go_wp2_with fail
    go_ret
    exact ⟨rfl, A1.out.bel⟩
  rewrite [show leftOf 1048576 len0_1 = 1048576 - (len0_1 : Int) from if_neg hb0]
  have hsz : ¬ (1048576 : Int) - (len0_1 : Int) < 0 := by omega
  have hlen : len0_1 ≤ 1048576 := by omega
  obtain ⟨p0, p1, _, _⟩ := cells2 v1 (w.heap.size + 1) _ _ _ E1.out.box
  go_wp2_with fail
  clear p0 p1
  refine (szCell_n a1_0 a1_1 len1_1 cap1_1 (1048576 - (len0_1 : Int)) _ hmax1 ⟨⟨by omega, by omega⟩⟩).mono ?_
  rintro e v2 ⟨rfl, hB⟩
  have A2 : Hd (ExC w w.heap.size a0_0 a0_1 len0_1 cap0_1 bs v2) := ⟨(A1.out.below hB)⟩
  have E2 : Hd (ExC w (w.heap.size + 1) a1_0 a1_1 len1_1 cap1_1 cs v2) := ⟨(E1.out.below hB)⟩
  clear A1 E1
  clear hB hmax1
  by_cases hb1 : (1048576 - (len0_1 : Int)) < (len1_1 : Int)
  · rewrite [show leftOf (1048576 - (len0_1 : Int)) len1_1 = -1 from if_pos hb1]
    go_wp2_with fail
    go_ret
    exact ⟨rfl, A2.out.bel⟩
  rewrite [show leftOf (1048576 - (len0_1 : Int)) len1_1 = (1048576 - (len0_1 : Int)) - (len1_1 : Int) from if_neg hb1]
  have hsz1 : ¬ (1048576 - (len0_1 : Int)) - (len1_1 : Int) < 0 := by omega
  have hlen1 : len1_1 ≤ 1048576 := by omega
  obtain ⟨ok, h1⟩ : ∃ x, (mOk a0_0 bs a1_0 cs) = x := ⟨_, rfl⟩
  have HM : Hd ((mOk a0_0 bs a1_0 cs) = ok) := ⟨h1⟩
  clear h1
  have okf : (ok != ok) = false := by simp
  obtain ⟨p0, p1, _, _⟩ := cells2 v2 w.heap.size _ _ _ A2.out.box
  obtain ⟨q0, q1, _, _⟩ := cells2 v2 (w.heap.size + 1) _ _ _ E2.out.box
  go_wp2_with fail
  have KK : Hd (∀ w', Below v2.heap.size v2 w' → (fun w' => (w'.cell? ⟨w.heap.size, 0, none⟩ = some (.int .i64 a0_0) ∧ w'.cell? ⟨w.heap.size, 1, none⟩ = some (.slice a0_1 len0_1 cap0_1)) ∧ w'.cell? ⟨w.heap.size + 1, 0, none⟩ = some (.int .i64 a1_0) ∧ w'.cell? ⟨w.heap.size + 1, 1, none⟩ = some (.slice a1_1 len1_1 cap1_1)) w') := ⟨fun w' hb => ⟨⟨cell_below p0 hb, cell_below p1 hb⟩, cell_below q0 hb, cell_below q1 hb⟩⟩
  go_region_held (fun w' => (w'.cell? ⟨w.heap.size, 0, none⟩ = some (.int .i64 a0_0) ∧ w'.cell? ⟨w.heap.size, 1, none⟩ = some (.slice a0_1 len0_1 cap0_1)) ∧ w'.cell? ⟨w.heap.size + 1, 0, none⟩ = some (.int .i64 a1_0) ∧ w'.cell? ⟨w.heap.size + 1, 1, none⟩ = some (.slice a1_1 len1_1 cap1_1)) (first | assumption | exact KK.out _ (Below.refl _ v2).drew | exact KK.out _ D3.out | exact KK.out _ D2.out | exact KK.out _ D1.out) (first | (go_at_call 5; refine (specSameText_any a0_0 (some ⟨gt1, 0, none⟩) len0_1 len0_1 bs a1_0 (some ⟨gt2, 0, none⟩) len1_1 len1_1 cs _ (row_at R3.out HL0.out) hlen (row_at R2.out HL1.out) hlen1).mono ?_; rintro e v5 ⟨rfl, hb⟩; rewrite [HM.out]; have D3 : Hd (Below v2.heap.size v2 v5) := ⟨Below.next D2.out hb⟩; clear hb) | (have G1 := D1; clear G1; go_at_call 6; refine (toCell_any a1_0 a1_1 len1_1 cap1_1 cs _ ?_ ?_).mono ?_; exact E2.out.reads.below rfl D1.out; omega; rintro e v4 ⟨gt2, rfl, _, hR, hb⟩; have D2 : Hd (Below v2.heap.size v2 v4) := ⟨Below.next D1.out hb⟩; have R2 : Hd (Row v4 gt2 cs) := ⟨hR⟩; have R3 : Hd (Row v4 gt1 bs) := ⟨R1.out.below hb⟩; clear hR hb) | (go_at_call 6; refine (toCell_any a0_0 a0_1 len0_1 cap0_1 bs _ ?_ ?_).mono ?_; exact A2.out.reads.below rfl (Below.refl _ v2).drew; omega; rintro e v3 ⟨gt1, rfl, _, hR, hb⟩; have D1 : Hd (Below v2.heap.size v2 v3) := ⟨Below.next (Below.refl _ v2).drew hb⟩; have R1 : Hd (Row v3 gt1 bs) := ⟨hR⟩; clear hR hb))
  have A3 : Hd (ExC w w.heap.size a0_0 a0_1 len0_1 cap0_1 bs v5) := ⟨(A2.out.below D3.out)⟩
  have E3 : Hd (ExC w (w.heap.size + 1) a1_0 a1_1 len1_1 cap1_1 cs v5) := ⟨(E2.out.below D3.out)⟩
  clear A2 E2
  clear KK p0 p1 q0 q1 D1 D2 D3 R1 R2 R3
  obtain ⟨p0, p1, _, _⟩ := cells2 v5 w.heap.size _ _ _ A3.out.box
  go_wp2_with fail
  clear p0 p1
  refine (toCell_any a0_0 a0_1 len0_1 cap0_1 bs _ A3.out.reads (by omega)).mono ?_
  rintro e v6 ⟨gX, rfl, hg, hR, hB⟩
  have NEAX : Hd (w.heap.size < gX) := ⟨Nat.lt_of_lt_of_le (lt_of_block A3.out.box) hg⟩
  have NEEX : Hd ((w.heap.size + 1) < gX) := ⟨Nat.lt_of_lt_of_le (lt_of_block E3.out.box) hg⟩
  have A4 : Hd (ExC w w.heap.size a0_0 a0_1 len0_1 cap0_1 bs (v6.alloc (.cells #[.int .i64 a0_0, .slice (some ⟨gX, 0, none⟩) len0_1 len0_1] 27))) := ⟨(A3.out.below hB).below (below_lit v6 _)⟩
  have E4 : Hd (ExC w (w.heap.size + 1) a1_0 a1_1 len1_1 cap1_1 cs (v6.alloc (.cells #[.int .i64 a0_0, .slice (some ⟨gX, 0, none⟩) len0_1 len0_1] 27))) := ⟨(E3.out.below hB).below (below_lit v6 _)⟩
  have X4 : Hd (BoxC v6.heap.size a0_0 (some ⟨gX, 0, none⟩) gX len0_1 len0_1 bs (v6.alloc (.cells #[.int .i64 a0_0, .slice (some ⟨gX, 0, none⟩) len0_1 len0_1] 27))) := ⟨boxC_row hR HL0.out⟩
  clear A3 E3
  clear hg hR hB
  generalize hd : v6.heap.size = dX at *
  obtain ⟨p0, p1, _, _⟩ := cells2 (v6.alloc (.cells #[.int .i64 a0_0, .slice (some ⟨gX, 0, none⟩) len0_1 len0_1] 27)) (w.heap.size + 1) _ _ _ E4.out.box
  go_wp2_with fail
  generalize hw : v6.alloc (.cells #[.int .i64 a0_0, .slice (some ⟨gX, 0, none⟩) len0_1 len0_1] 27) = v7 at *
  clear hd hw
  clear p0 p1
  refine (toCell_any a1_0 a1_1 len1_1 cap1_1 cs _ E4.out.reads (by omega)).mono ?_
  rintro e v8 ⟨gY, rfl, hg, hR, hB⟩
  have NEXY : Hd (dX < gY) := ⟨Nat.lt_of_lt_of_le (lt_of_block X4.out.box) hg⟩
  have NEAY : Hd (w.heap.size < gY) := ⟨Nat.lt_of_lt_of_le (lt_of_block A4.out.box) hg⟩
  have NEEY : Hd ((w.heap.size + 1) < gY) := ⟨Nat.lt_of_lt_of_le (lt_of_block E4.out.box) hg⟩
  have X5 : Hd (BoxC dX a0_0 (some ⟨gX, 0, none⟩) gX len0_1 len0_1 bs (v8.alloc (.cells #[.int .i64 a1_0, .slice (some ⟨gY, 0, none⟩) len1_1 len1_1] 27))) := ⟨(X4.out.below hB).below (below_lit v8 _)⟩
  have A5 : Hd (ExC w w.heap.size a0_0 a0_1 len0_1 cap0_1 bs (v8.alloc (.cells #[.int .i64 a1_0, .slice (some ⟨gY, 0, none⟩) len1_1 len1_1] 27))) := ⟨(A4.out.below hB).below (below_lit v8 _)⟩
  have E5 : Hd (ExC w (w.heap.size + 1) a1_0 a1_1 len1_1 cap1_1 cs (v8.alloc (.cells #[.int .i64 a1_0, .slice (some ⟨gY, 0, none⟩) len1_1 len1_1] 27))) := ⟨(E4.out.below hB).below (below_lit v8 _)⟩
  have Y5 : Hd (BoxC v8.heap.size a1_0 (some ⟨gY, 0, none⟩) gY len1_1 len1_1 cs (v8.alloc (.cells #[.int .i64 a1_0, .slice (some ⟨gY, 0, none⟩) len1_1 len1_1] 27))) := ⟨boxC_row hR HL1.out⟩
  clear X4 A4 E4
  clear hg hR hB
  generalize hd : v8.heap.size = dY at *
  obtain ⟨p0, p1, _, _⟩ := cells2 (v8.alloc (.cells #[.int .i64 a1_0, .slice (some ⟨gY, 0, none⟩) len1_1 len1_1] 27)) dX _ _ _ X5.out.box
  obtain ⟨q0, q1, _, _⟩ := cells2 (v8.alloc (.cells #[.int .i64 a1_0, .slice (some ⟨gY, 0, none⟩) len1_1 len1_1] 27)) dY _ _ _ Y5.out.box
  go_wp2_with fail
  generalize hw : v8.alloc (.cells #[.int .i64 a1_0, .slice (some ⟨gY, 0, none⟩) len1_1 len1_1] 27) = v9 at *
  clear hd hw
  clear p0 p1 q0 q1
  refine (implSameText_any a0_0 (some ⟨gX, 0, none⟩) len0_1 len0_1 bs a1_0 (some ⟨gY, 0, none⟩) len1_1 len1_1 cs _ X5.out.at_ hlen Y5.out.at_ hlen1 ⟨T.out.below A5.out.bel⟩).mono ?_
  rintro e v10 ⟨rfl, hB⟩
  rewrite [HM.out]
  have X6 : Hd (BoxC dX a0_0 (some ⟨gX, 0, none⟩) gX len0_1 len0_1 bs v10) := ⟨(X5.out.below hB)⟩
  have Y6 : Hd (BoxC dY a1_0 (some ⟨gY, 0, none⟩) gY len1_1 len1_1 cs v10) := ⟨(Y5.out.below hB)⟩
  have A6 : Hd (ExC w w.heap.size a0_0 a0_1 len0_1 cap0_1 bs v10) := ⟨(A5.out.below hB)⟩
  have E6 : Hd (ExC w (w.heap.size + 1) a1_0 a1_1 len1_1 cap1_1 cs v10) := ⟨(E5.out.below hB)⟩
  clear X5 Y5 A5 E5
  clear hB
  obtain ⟨p0, p1, _, _⟩ := cells2 v10 dX _ _ _ X6.out.box
  obtain ⟨q0, q1, _, _⟩ := cells2 v10 w.heap.size _ _ _ A6.out.box
  go_wp2_with fail
  have KK1 : Hd (∀ w', Below v10.heap.size v10 w' → (fun w' => (w'.cell? ⟨dX, 0, none⟩ = some (.int .i64 a0_0) ∧ w'.cell? ⟨dX, 1, none⟩ = some (.slice (some ⟨gX, 0, none⟩) len0_1 len0_1)) ∧ w'.cell? ⟨w.heap.size, 0, none⟩ = some (.int .i64 a0_0) ∧ w'.cell? ⟨w.heap.size, 1, none⟩ = some (.slice a0_1 len0_1 cap0_1)) w') := ⟨fun w' hb => ⟨⟨cell_below p0 hb, cell_below p1 hb⟩, cell_below q0 hb, cell_below q1 hb⟩⟩
  go_region_held (fun w' => (w'.cell? ⟨dX, 0, none⟩ = some (.int .i64 a0_0) ∧ w'.cell? ⟨dX, 1, none⟩ = some (.slice (some ⟨gX, 0, none⟩) len0_1 len0_1)) ∧ w'.cell? ⟨w.heap.size, 0, none⟩ = some (.int .i64 a0_0) ∧ w'.cell? ⟨w.heap.size, 1, none⟩ = some (.slice a0_1 len0_1 cap0_1)) (first | assumption | exact KK1.out _ (Below.refl _ v10).drew | exact KK1.out _ hBv12.out | exact KK1.out _ hBv11.out) (first | (go_at_call 6; refine (toCell_any a0_0 a0_1 len0_1 cap0_1 bs _ ?_ ?_).mono ?_; exact A6.out.reads.below rfl (Below.refl _ v10).drew; omega; rintro e v11 ⟨gtv11, rfl, _, hRv11, hbv11⟩; have hBv11 : Hd (Below v10.heap.size v10 v11) := ⟨Below.next (Below.refl _ v10).drew hbv11⟩; have Rv11 : Hd (Row v11 gtv11 bs) := ⟨hRv11⟩; clear hRv11 hbv11) | (go_at_call 8; refine (eqCell_true a0_0 (some ⟨gX, 0, none⟩) (some ⟨gtv11, 0, none⟩) len0_1 len0_1 len0_1 bs _ ?_ ?_ ?_).mono ?_; omega; exact (X6.out.below hBv11.out).reads; exact Rv11.out.reads HL0.out; rintro e v12 ⟨rfl, hbv12⟩; have hBv12 : Hd (Below v10.heap.size v10 v12) := ⟨Below.next hBv11.out hbv12⟩; clear hbv12))
  have X7 : Hd (BoxC dX a0_0 (some ⟨gX, 0, none⟩) gX len0_1 len0_1 bs v12) := ⟨(X6.out.below hBv12.out)⟩
  have Y7 : Hd (BoxC dY a1_0 (some ⟨gY, 0, none⟩) gY len1_1 len1_1 cs v12) := ⟨(Y6.out.below hBv12.out)⟩
  have A7 : Hd (ExC w w.heap.size a0_0 a0_1 len0_1 cap0_1 bs v12) := ⟨(A6.out.below hBv12.out)⟩
  have E7 : Hd (ExC w (w.heap.size + 1) a1_0 a1_1 len1_1 cap1_1 cs v12) := ⟨(E6.out.below hBv12.out)⟩
  clear X6 Y6 A6 E6
  clear KK1 p0 p1 q0 q1 hBv11 hBv12 Rv11
  obtain ⟨p0, p1, _, _⟩ := cells2 v12 dY _ _ _ Y7.out.box
  obtain ⟨q0, q1, _, _⟩ := cells2 v12 (w.heap.size + 1) _ _ _ E7.out.box
  go_wp2_with fail
  have KK2 : Hd (∀ w', Below v12.heap.size v12 w' → (fun w' => (w'.cell? ⟨dY, 0, none⟩ = some (.int .i64 a1_0) ∧ w'.cell? ⟨dY, 1, none⟩ = some (.slice (some ⟨gY, 0, none⟩) len1_1 len1_1)) ∧ w'.cell? ⟨w.heap.size + 1, 0, none⟩ = some (.int .i64 a1_0) ∧ w'.cell? ⟨w.heap.size + 1, 1, none⟩ = some (.slice a1_1 len1_1 cap1_1)) w') := ⟨fun w' hb => ⟨⟨cell_below p0 hb, cell_below p1 hb⟩, cell_below q0 hb, cell_below q1 hb⟩⟩
  go_region_held (fun w' => (w'.cell? ⟨dY, 0, none⟩ = some (.int .i64 a1_0) ∧ w'.cell? ⟨dY, 1, none⟩ = some (.slice (some ⟨gY, 0, none⟩) len1_1 len1_1)) ∧ w'.cell? ⟨w.heap.size + 1, 0, none⟩ = some (.int .i64 a1_0) ∧ w'.cell? ⟨w.heap.size + 1, 1, none⟩ = some (.slice a1_1 len1_1 cap1_1)) (first | assumption | exact KK2.out _ (Below.refl _ v12).drew | exact KK2.out _ hBv14.out | exact KK2.out _ hBv13.out) (first | (go_at_call 6; refine (toCell_any a1_0 a1_1 len1_1 cap1_1 cs _ ?_ ?_).mono ?_; exact E7.out.reads.below rfl (Below.refl _ v12).drew; omega; rintro e v13 ⟨gtv13, rfl, _, hRv13, hbv13⟩; have hBv13 : Hd (Below v12.heap.size v12 v13) := ⟨Below.next (Below.refl _ v12).drew hbv13⟩; have Rv13 : Hd (Row v13 gtv13 cs) := ⟨hRv13⟩; clear hRv13 hbv13) | (go_at_call 8; refine (eqCell_true a1_0 (some ⟨gY, 0, none⟩) (some ⟨gtv13, 0, none⟩) len1_1 len1_1 len1_1 cs _ ?_ ?_ ?_).mono ?_; omega; exact (Y7.out.below hBv13.out).reads; exact Rv13.out.reads HL1.out; rintro e v14 ⟨rfl, hbv14⟩; have hBv14 : Hd (Below v12.heap.size v12 v14) := ⟨Below.next hBv13.out hbv14⟩; clear hbv14))
  have X8 : Hd (BoxC dX a0_0 (some ⟨gX, 0, none⟩) gX len0_1 len0_1 bs v14) := ⟨(X7.out.below hBv14.out)⟩
  have Y8 : Hd (BoxC dY a1_0 (some ⟨gY, 0, none⟩) gY len1_1 len1_1 cs v14) := ⟨(Y7.out.below hBv14.out)⟩
  have A8 : Hd (ExC w w.heap.size a0_0 a0_1 len0_1 cap0_1 bs v14) := ⟨(A7.out.below hBv14.out)⟩
  have E8 : Hd (ExC w (w.heap.size + 1) a1_0 a1_1 len1_1 cap1_1 cs v14) := ⟨(E7.out.below hBv14.out)⟩
  clear X7 Y7 A7 E7
  clear KK2 p0 p1 q0 q1 hBv13 hBv14 Rv13
  go_wp2_with fail
  go_ret
  exact ⟨rfl, A8.out.bel⟩

set_option maxRecDepth 100000 in
theorem lifted (os : Os) (started : os.Started) (H : Type) (enc : TypeId × Value → H) :
    ReturnsInHanded {} Tryd.checked os 3 .any (fun w args => (Rows.fnExactSameTextSpec.pre enc Tryd.prog Tryd.f3 Rows.fnExactSameTextRow.domain false w args ∧ laidMetH Tryd.prog Rows.fnExactSameTextRow.laid w) ∧ sizedMet enc Tryd.prog Tryd.f3 (OpenSpec.ofChange Rows.fnExactSameTextSpec) false w args)
      (Rows.fnExactSameTextSpec.post enc Tryd.prog Tryd.f3 false true false false) := by
  refine returnsInHanded_of_change_and (C := Tryd.checked) (X := fun w _ => laidMetH Tryd.prog Rows.fnExactSameTextRow.laid w) (fun _ _ _ hh h => h.of_heap hh) own started (by kernel_rfl) Tryd.func3
    (ChangeSpec.witness_shaped (enc := enc) (C := Tryd.checked) (os := os) (X := fun w _ => laidMetH Tryd.prog Rows.fnExactSameTextRow.laid w) false (World.laidAll Tryd.prog os Rows.fnExactSameTextRow.laid) #[.agg #[.int .i64 0, .slice none 0 0], .agg #[.int .i64 0, .slice none 0 0]] 8 (World.laidAll_os _ _ _)
      (World.shaped_of_ZipB (by kernel_rfl) (by kernel_rfl)) (by kernel_rfl) (by kernel_rfl) (by kernel_rfl)
      (by rw [MakeChecks.laidMetH_plain _ _ _ (by kernel_rfl)]; exact laidMet_laidAll _ (by kernel_rfl) (by kernel_rfl))) ?_
  intro W base args ds gs before hval0 hW _ _ hL _
  have hval : ∀ (j : Nat) t v, Tryd.f3.params[j]? = some t → args[j]? = some v → Value.okWide Tryd.prog W .any base t v := hval0
  have hW' := hW
  obtain ⟨p, q, hA0, hV, rfl, hfz, hnd⟩ := hW
  have hA : DataW.TrodAll enc Tryd.prog W 0 (fun _ => true) true Tryd.f3.params.toList args.toList ds p := hA0
  rw [Tryd.params3] at hA hval
  obtain ⟨v0, vs0, d0, ds0, p0, q0, hargs, rfl, rfl, h0, r0⟩ := trodAll_cons hA
  obtain ⟨v1, vs1, d1, ds1, p1, q1, rfl, rfl, rfl, h1, r1⟩ := trodAll_cons r0
  obtain ⟨rfl, rfl, rfl⟩ := trodAll_nil r1
  obtain rfl : args = #[v0, v1] := by cases args; simp_all
  have hV1 : DataW.TrodVars enc Tryd.prog W (fun _ => true) Rows.fnExactSameTextSpec.vars gs q := hV
  obtain ⟨g1, g2, g3, g4, rfl⟩ : ∃ g1 g2 g3 g4, gs = [g1, g2, g3, g4] := by
    match gs, (vars_length hV1 : gs.length = 4) with
    | [g1, g2, g3, g4], _ => exact ⟨g1, g2, g3, g4, rfl⟩
  have k0 := h0
  have lt0 : ∀ x ∈ p0, x.block < W.heap.size := by obtain ⟨m, hm⟩ := k0; exact DataW.trod_lt m _ _ _ hm
  obtain ⟨u0_0, u0_1, y0_0, y0_1, n0, rfl, rfl, rfl, h0_0, h0_1⟩ := Joins.open_agg2 Tryd.underlying24 (by kernel_rfl) (by kernel_rfl) (hval 0 24 v0 rfl rfl) h0
  obtain ⟨a0_0, g0_0, rfl, w0_0⟩ := DataW.trod_int Tryd.underlying3 h0_0
  simp only [List.cons.injEq, and_true] at g0_0
  subst g0_0
  obtain ⟨a0_1, len0_1, cap0_1, g0_1⟩ := Joins.slice_form Tryd.underlying22 h0_1
  simp only [List.cons.injEq, and_true] at g0_1
  subst g0_1
  obtain ⟨z0_1, w0_1⟩ : ∃ zs, IsRow .u8 W a0_1 len0_1 cap0_1 zs := by
    rcases open_ints Tryd.underlying22 Tryd.underlying5 (by kernel_rfl) h0_1 with ⟨hcs, _⟩ | ⟨x, l, c, zs, hcs, _, hl, hm, hz, _, hcell, hwz⟩
    · simp at hcs
      obtain ⟨rfl, rfl, rfl⟩ := hcs
      exact ⟨[], .inl ⟨rfl, rfl, rfl, rfl⟩⟩
    · simp at hcs
      obtain ⟨rfl, rfl, rfl⟩ := hcs
      exact ⟨zs, .inr ⟨_, rfl, hl, hm, by simpa using hz, hcell, hwz⟩⟩
  have k1 := h1
  have lt1 : ∀ x ∈ p1, x.block < W.heap.size := by obtain ⟨m, hm⟩ := k1; exact DataW.trod_lt m _ _ _ hm
  obtain ⟨u1_0, u1_1, y1_0, y1_1, n1, rfl, rfl, rfl, h1_0, h1_1⟩ := Joins.open_agg2 Tryd.underlying24 (by kernel_rfl) (by kernel_rfl) (hval 1 24 v1 rfl rfl) h1
  obtain ⟨a1_0, g1_0, rfl, w1_0⟩ := DataW.trod_int Tryd.underlying3 h1_0
  simp only [List.cons.injEq, and_true] at g1_0
  subst g1_0
  obtain ⟨a1_1, len1_1, cap1_1, g1_1⟩ := Joins.slice_form Tryd.underlying22 h1_1
  simp only [List.cons.injEq, and_true] at g1_1
  subst g1_1
  obtain ⟨z1_1, w1_1⟩ : ∃ zs, IsRow .u8 W a1_1 len1_1 cap1_1 zs := by
    rcases open_ints Tryd.underlying22 Tryd.underlying5 (by kernel_rfl) h1_1 with ⟨hcs, _⟩ | ⟨x, l, c, zs, hcs, _, hl, hm, hz, _, hcell, hwz⟩
    · simp at hcs
      obtain ⟨rfl, rfl, rfl⟩ := hcs
      exact ⟨[], .inl ⟨rfl, rfl, rfl, rfl⟩⟩
    · simp at hcs
      obtain ⟨rfl, rfl, rfl⟩ := hcs
      exact ⟨zs, .inr ⟨_, rfl, hl, hm, by simpa using hz, hcell, hwz⟩⟩
  clear hA0 hval0
  refine (walk a0_0 w0_0 a0_1 len0_1 cap0_1 z0_1 a1_0 w1_0 a1_1 len1_1 cap1_1 z1_1 W w0_1 w1_1 ⟨all_of hL⟩).mono fun e W' ⟨he, hg⟩ => ?_
  subst he
  exact ⟨_, rfl, _, _, _, [], _, q, hW', trodAll_mk1 (shut_bool Tryd.underlying4 _), (trodAll_cons_mk (Below.trod laidOut (by kernel_rfl) (of_decide_eq_true (by kernel_rfl)) k0 hg lt0) (trodAll_cons_mk (Below.trod laidOut (by kernel_rfl) (of_decide_eq_true (by kernel_rfl)) k1 hg lt1) trodAll_mk0)), Below.trodVars laidOut hg (by kernel_rfl) hV1, hg.frame _, fun h => by cases h⟩

theorem over : Rows.fnExactSameTextRow.holds Tryd.pinned (OpenSpec.ofChange Rows.fnExactSameTextSpec) :=
  OpenClaim.holds_of_wide 3 Tryd.f3 rfl rfl rfl rfl rfl rfl rfl ⟨rfl, rfl, rfl, rfl, rfl⟩ rfl rfl rfl rfl rfl (by kernel_rfl) Tryd.func3 (by kernel_rfl)
    (of_decide_eq_true (by kernel_rfl)) (by unfold Func.isWrapper; first | (rw [if_pos (by decide +kernel)]; kernel_rfl) | (rw [if_neg (by decide +kernel)]; exact ⟨rfl, rfl⟩))
    (fun os started H enc _ => lifted os started H enc)

theorem plain (f : FuncId) (fn : Func) (hf : Tryd.pinned.checked.prog.funcNamed Rows.fnExactSameTextRow.func = some f) (hfn : Tryd.pinned.checked.prog.funcs[f]? = some fn) :
    true = Tryd.pinned.checked.prog.looks [] ∧ ∀ (j : Nat) t, fn.params[j]? = some t → Tryd.pinned.checked.prog.wantsStandIn t = false := by
  obtain rfl : f = 3 := Option.some.inj ((show Tryd.prog.funcNamed Rows.fnExactSameTextRow.func = some 3 by kernel_rfl).symm.trans hf) |>.symm
  obtain rfl : fn = Tryd.f3 := (Option.some.inj (Tryd.func3.symm.trans hfn)).symm
  refine ⟨by kernel_rfl, fun j t ht => ?_⟩
  rw [Tryd.params3] at ht
  have hm : t ∈ [24] := by simpa using Array.mem_of_getElem? ht
  have hall : ([24].all fun u => !Tryd.prog.wantsStandIn u) = true := by kernel_rfl
  exact (show Tryd.prog.wantsStandIn t = false by simpa using List.all_eq_true.1 hall t hm)

end Go.Proofs.YtgefabagpcjegabDoor.fnExactSameText

namespace Go.Proofs.YtgefabagpcjegabDoor
theorem fnExactSameTextCard_holds : Rows.FnExactSameTextCardSaid :=
  Claim7.holds_tied_plain_at .later [] _ _ _ _ fnExactSameText.over (fun _ h => by cases h) (by kernel_rfl) (fun _ h => by cases h) fnExactSameText_row_tie rfl ⟨rfl, rfl⟩ (by kernel_rfl) rfl fnExactSameText.plain (by kernel_rfl)
#print axioms fnExactSameTextCard_holds
end Go.Proofs.YtgefabagpcjegabDoor
