/- At every phase, name, set and text (each text at most 1048576 bytes) the program answers the row and the code that the specification answers; its answer owns its memory, behind another call too. -/
import Derived.Test.YtpafjehphajbhaaDoorCards
import Derived.Test.YtpafjehphajbhaaDoorTie
import Derived.WalkKit
import Derived.ProofKit
import Derived.OpenShut
import Derived.ShutString
import Derived.ChangeOld
import Derived.Below
import Derived.OpenVars
import Derived.Lay
import Derived.MakeChecks
import Derived.SevenTiedAt
import Derived.Stop.Joined
import Derived.Lib.SmallJoins
import Derived.Test.YtpafjehphajbhaaDoorRowN
import Derived.Test.YtpafjehphajbhaaDoorRowM
namespace Go.Proofs.YtpafjehphajbhaaDoor.fnExactRowOf
open Go.ChangeShapes Go.WideShapes Go.ChangeAt Go.RowKit
open Go.ChangeMaps (open_string shut_string)
set_option linter.unusedVariables false

theorem own : ownKnob Tryd.prog.godebug = none := by kernel_rfl
theorem laidOut : laidOutB Tryd.prog = true := by kernel_rfl

set_option maxRecDepth 4000 in
set_option maxHeartbeats 8000000 in
theorem walk (a0 : Int) (w0 : (Lit.int .i64 a0).wf = true) (a1 : ByteArray) (w1 : a1.size ≤ maxLen) (a2 : Int) (w2 : (Lit.int .i64 a2).wf = true) (a3 : ByteArray) (w3 : a3.size ≤ maxLen) (w : World) (T : Hd (AllAt w)) :
    Calls Tryd.prog 5 #[.int .i64 a0, .string a1, .int .i64 a2, .string a3] w fun e w' => e = .returned (.bool true) ∧ Below w.heap.size w w' := by
  clear w0 w2
  by_cases hb1 : 1048576 < a1.size
  · clear T
    go_enter Tryd.func5, Tryd.ntmps5
    go_wp2_with fail
    go_ret
    exact ⟨rfl, Below.refl _ _⟩
  by_cases hb3 : 1048576 < a3.size
  · clear T
    go_enter Tryd.func5, Tryd.ntmps5
    go_wp2_with fail
    go_ret
    exact ⟨rfl, Below.refl _ _⟩
  clear w1 w3
  have hk : a1.size ≤ 1048576 := by omega
  have hs : a3.size ≤ 1048576 := by omega
  have hln := rowV_len a0 a1 a2 a3.data.toList
  obtain ⟨⟨K, T1, Y1, T2, Y2, HS, AS⟩, h1⟩ : ∃ r, rowV a0 a1 a2 a3.data.toList = r := ⟨_, rfl⟩
  have HR : Hd (rowV a0 a1 a2 a3.data.toList = ⟨K, T1, Y1, T2, Y2, HS, AS⟩) := ⟨h1⟩
  rw [h1] at hln
  have HLN : Hd (Y1.length ≤ 20 ∧ Y2.length ≤ 20) := ⟨hln⟩
  clear h1 hln
  obtain ⟨cd, h1⟩ : ∃ x, (rowC a0 a1 a2 a3.data.toList) = x := ⟨_, rfl⟩
  have HC : Hd ((rowC a0 a1 a2 a3.data.toList) = cd) := ⟨h1⟩
  clear h1
  have cdf : (cd != cd) = false := by simp
  go_enter Tryd.func5, Tryd.ntmps5
  go_wp2_with fail
  refine (specRowOf_any a0 a1 a2 a3 _ hk hs).mono ?_
  rewrite [HR.out, HC.out]
  rintro e v1 h9
  obtain ⟨a1W, n1W, c1W, a2W, n2W, c2W, rfl, hn1, hn2, hA, hsz, hB⟩ := h9.at_
  clear h9
  have HN1 : Hd (Y1.length = n1W) := ⟨hn1⟩
  have HN2 : Hd (Y2.length = n2W) := ⟨hn2⟩
  obtain ⟨g1W, g2W, hg1, hg2, hW⟩ := boxR_out (k := K) (t1 := T1) (t2 := T2) (has := HS) (asd := AS) hA hsz hn1 hn2
  have NBW1 : Hd (w.heap.size ≤ g1W) := ⟨hg1⟩
  have NBW2 : Hd (w.heap.size ≤ g2W) := ⟨hg2⟩
  have B2 : Hd (Below w.heap.size w (v1.alloc (.cells #[.string K, .int .i64 T1, .slice a1W n1W c1W, .int .i64 T2, .slice a2W n2W c2W, .int .i64 HS, .bool AS] 31))) := ⟨Below.next hB (below_lit v1 _)⟩
  have W2 : Hd (BoxR v1.heap.size K T1 a1W g1W n1W c1W Y1 T2 a2W g2W n2W c2W Y2 HS AS (v1.alloc (.cells #[.string K, .int .i64 T1, .slice a1W n1W c1W, .int .i64 T2, .slice a2W n2W c2W, .int .i64 HS, .bool AS] 31))) := ⟨hW⟩
  clear hn1 hn2 hA hsz hB hg1 hg2 hW
  generalize hd : v1.heap.size = dW at *
  have hn1W : n1W ≤ 20 := by have := HLN.out.1; have := HN1.out; omega
  have hn2W : n2W ≤ 20 := by have := HLN.out.2; have := HN2.out; omega
  go_wp2_with fail
  generalize hw : v1.alloc (.cells #[.string K, .int .i64 T1, .slice a1W n1W c1W, .int .i64 T2, .slice a2W n2W c2W, .int .i64 HS, .bool AS] 31) = v2 at *
  clear hd hw
  refine (implRowOf_any a0 a1 a2 a3 _ hk hs ⟨T.out.below B2.out⟩).mono ?_
  rewrite [HR.out, HC.out]
  rintro e v3 h9
  obtain ⟨a1G, n1G, c1G, a2G, n2G, c2G, rfl, hn1, hn2, hA, hsz, hB⟩ := h9.at_
  clear h9
  have en : n1W = n1G := HN1.out.symm.trans hn1
  subst en
  have en : n2W = n2G := HN2.out.symm.trans hn2
  subst en
  obtain ⟨g1G, g2G, hg1, hg2, hW⟩ := boxR_out (k := K) (t1 := T1) (t2 := T2) (has := HS) (asd := AS) hA hsz hn1 hn2
  have NEWG1 : Hd (dW < g1G) := ⟨Nat.lt_of_lt_of_le (lt_of_block W2.out.box) hg1⟩
  have NEWG2 : Hd (dW < g2G) := ⟨Nat.lt_of_lt_of_le (lt_of_block W2.out.box) hg2⟩
  have NBG1 : Hd (w.heap.size ≤ g1G) := ⟨Nat.le_trans B2.out.size hg1⟩
  have NBG2 : Hd (w.heap.size ≤ g2G) := ⟨Nat.le_trans B2.out.size hg2⟩
  have W3 : Hd (BoxR dW K T1 a1W g1W n1W c1W Y1 T2 a2W g2W n2W c2W Y2 HS AS (v3.alloc (.cells #[.string K, .int .i64 T1, .slice a1G n1W c1G, .int .i64 T2, .slice a2G n2W c2G, .int .i64 HS, .bool AS] 31))) := ⟨(W2.out.below hB).below (below_lit v3 _)⟩
  have B3 : Hd (Below w.heap.size w (v3.alloc (.cells #[.string K, .int .i64 T1, .slice a1G n1W c1G, .int .i64 T2, .slice a2G n2W c2G, .int .i64 HS, .bool AS] 31))) := ⟨Below.next (Below.next B2.out hB) (below_lit v3 _)⟩
  clear W2 B2
  have G3 : Hd (BoxR v3.heap.size K T1 a1G g1G n1W c1G Y1 T2 a2G g2G n2W c2G Y2 HS AS (v3.alloc (.cells #[.string K, .int .i64 T1, .slice a1G n1W c1G, .int .i64 T2, .slice a2G n2W c2G, .int .i64 HS, .bool AS] 31))) := ⟨hW⟩
  clear hn1 hn2 hA hsz hB hg1 hg2 hW
  generalize hd : v3.heap.size = dG at *
  obtain ⟨p0, p1, p2, p3, p4, p5, p6⟩ := cells7 _ dG _ _ _ _ _ _ _ _ G3.out.box
  obtain ⟨q0, q1, q2, q3, q4, q5, q6⟩ := cells7 _ dW _ _ _ _ _ _ _ _ W3.out.box
  go_wp2_with fail
  generalize hw : v3.alloc (.cells #[.string K, .int .i64 T1, .slice a1G n1W c1G, .int .i64 T2, .slice a2G n2W c2G, .int .i64 HS, .bool AS] 31) = v4 at *
  clear hd hw
  clear p0 p1 p2 p3 p4 p5 p6 q0 q1 q2 q3 q4 q5 q6
  refine (eqRow_true K T1 a1G n1W c1G T2 a2G n2W c2G HS AS a1W c1W a2W c2W Y1 Y2 _ (by omega) (by omega) G3.out.reads1 G3.out.reads2 W3.out.reads1 W3.out.reads2).mono ?_
  rintro e v5 ⟨rfl, hB⟩
  have W4 : Hd (BoxR dW K T1 a1W g1W n1W c1W Y1 T2 a2W g2W n2W c2W Y2 HS AS v5) := ⟨(W3.out.below hB)⟩
  have G4 : Hd (BoxR dG K T1 a1G g1G n1W c1G Y1 T2 a2G g2G n2W c2G Y2 HS AS v5) := ⟨(G3.out.below hB)⟩
  have B4 : Hd (Below w.heap.size w v5) := ⟨Below.next B3.out hB⟩
  clear W3 G3 B3
  clear hB
  obtain ⟨p0, p1, p2, p3, p4, p5, p6⟩ := cells7 _ dG _ _ _ _ _ _ _ _ G4.out.box
  go_wp2_with fail
  clear p0 p1 p2 p3 p4 p5 p6
  refine (markRow_o K T1 a1G g1G n1W c1G T2 a2G g2G n2W c2G HS AS 1 Y1 Y2 _ G4.out.len1 G4.out.len2 G4.out.row1 G4.out.row2 G4.out.ne (Nat.lt_trans G4.out.lt1 (lt_of_block G4.out.box)) (Nat.lt_trans G4.out.lt2 (lt_of_block G4.out.box)) (by omega) (by omega) (by omega)).mono ?_
  rintro e v6 ⟨rfl, hR1, hR2, hM⟩
  have W5 : Hd (BoxR dW K T1 a1W g1W n1W c1W Y1 T2 a2W g2W n2W c2W Y2 HS AS v6) := ⟨W4.out.other hM (by have := NEWG1.out; have := NEWG2.out; have := W4.out.lt1; have := W4.out.lt2; omega) (by have := NEWG1.out; have := NEWG2.out; have := W4.out.lt1; have := W4.out.lt2; omega) (by have := NEWG1.out; have := NEWG2.out; have := W4.out.lt1; have := W4.out.lt2; omega) (by have := NEWG1.out; have := NEWG2.out; have := W4.out.lt1; have := W4.out.lt2; omega) (by have := NEWG1.out; have := NEWG2.out; have := W4.out.lt1; have := W4.out.lt2; omega) (by have := NEWG1.out; have := NEWG2.out; have := W4.out.lt1; have := W4.out.lt2; omega)⟩
  have B5 : Hd (Below w.heap.size w v6) := ⟨below_marked B4.out hM NBG1.out NBG2.out⟩
  have G5 : Hd (BoxR dG K T1 a1G g1G n1W c1G ((marks 1 n1W)) T2 a2G g2G n2W c2G ((marks (1 + n1W) n2W)) HS AS v6) := ⟨G4.out.marked hM hR1 hR2 (marks_length _ _) (marks_length _ _)⟩
  clear hR1 hR2 hM W4 G4 B4
  obtain ⟨p0, p1, p2, p3, p4, p5, p6⟩ := cells7 _ dG _ _ _ _ _ _ _ _ G5.out.box
  go_wp2_with fail
  clear p0 p1 p2 p3 p4 p5 p6
  refine (heldRow_o K T1 a1G g1G n1W c1G T2 a2G g2G n2W c2G HS AS 1 _ G5.out.row1 G5.out.row2 (by omega) (by omega) (by omega)).mono ?_
  rintro e v7 ⟨rfl, hB⟩
  have W6 : Hd (BoxR dW K T1 a1W g1W n1W c1W Y1 T2 a2W g2W n2W c2W Y2 HS AS v7) := ⟨(W5.out.below hB)⟩
  have G6 : Hd (BoxR dG K T1 a1G g1G n1W c1G ((marks 1 n1W)) T2 a2G g2G n2W c2G ((marks (1 + n1W) n2W)) HS AS v7) := ⟨(G5.out.below hB)⟩
  have B6 : Hd (Below w.heap.size w v7) := ⟨Below.next B5.out hB⟩
  clear W5 G5 B5
  clear hB
  have hq : ¬ (((1 + n1W + n2W : Nat) : Int) < 0) := by omega
  have hqm : (((1 + n1W + n2W : Nat) : Int) != ((1 + n1W + n2W : Nat) : Int)) = false := by simp
  go_wp2_with fail
  refine (implRowOf_any a0 a1 a2 a3 _ hk hs ⟨T.out.below B6.out⟩).mono ?_
  rewrite [HR.out, HC.out]
  rintro e v8 h9
  obtain ⟨a1H, n1H, c1H, a2H, n2H, c2H, rfl, hn1, hn2, hA, hsz, hB⟩ := h9.at_
  clear h9
  have en : n1W = n1H := HN1.out.symm.trans hn1
  subst en
  have en : n2W = n2H := HN2.out.symm.trans hn2
  subst en
  obtain ⟨g1H, g2H, hg1, hg2, hW⟩ := boxR_out (k := K) (t1 := T1) (t2 := T2) (has := HS) (asd := AS) hA hsz hn1 hn2
  have NEWH1 : Hd (dW < g1H) := ⟨Nat.lt_of_lt_of_le (lt_of_block W6.out.box) hg1⟩
  have NEWH2 : Hd (dW < g2H) := ⟨Nat.lt_of_lt_of_le (lt_of_block W6.out.box) hg2⟩
  have NEGH1 : Hd (dG < g1H) := ⟨Nat.lt_of_lt_of_le (lt_of_block G6.out.box) hg1⟩
  have NEGH2 : Hd (dG < g2H) := ⟨Nat.lt_of_lt_of_le (lt_of_block G6.out.box) hg2⟩
  have NBH1 : Hd (w.heap.size ≤ g1H) := ⟨Nat.le_trans B6.out.size hg1⟩
  have NBH2 : Hd (w.heap.size ≤ g2H) := ⟨Nat.le_trans B6.out.size hg2⟩
  have W7 : Hd (BoxR dW K T1 a1W g1W n1W c1W Y1 T2 a2W g2W n2W c2W Y2 HS AS (v8.alloc (.cells #[.string K, .int .i64 T1, .slice a1H n1W c1H, .int .i64 T2, .slice a2H n2W c2H, .int .i64 HS, .bool AS] 31))) := ⟨(W6.out.below hB).below (below_lit v8 _)⟩
  have G7 : Hd (BoxR dG K T1 a1G g1G n1W c1G ((marks 1 n1W)) T2 a2G g2G n2W c2G ((marks (1 + n1W) n2W)) HS AS (v8.alloc (.cells #[.string K, .int .i64 T1, .slice a1H n1W c1H, .int .i64 T2, .slice a2H n2W c2H, .int .i64 HS, .bool AS] 31))) := ⟨(G6.out.below hB).below (below_lit v8 _)⟩
  have B7 : Hd (Below w.heap.size w (v8.alloc (.cells #[.string K, .int .i64 T1, .slice a1H n1W c1H, .int .i64 T2, .slice a2H n2W c2H, .int .i64 HS, .bool AS] 31))) := ⟨Below.next (Below.next B6.out hB) (below_lit v8 _)⟩
  clear W6 G6 B6
  have H7 : Hd (BoxR v8.heap.size K T1 a1H g1H n1W c1H Y1 T2 a2H g2H n2W c2H Y2 HS AS (v8.alloc (.cells #[.string K, .int .i64 T1, .slice a1H n1W c1H, .int .i64 T2, .slice a2H n2W c2H, .int .i64 HS, .bool AS] 31))) := ⟨hW⟩
  clear hn1 hn2 hA hsz hB hg1 hg2 hW
  generalize hd : v8.heap.size = dH at *
  obtain ⟨p0, p1, p2, p3, p4, p5, p6⟩ := cells7 _ dH _ _ _ _ _ _ _ _ H7.out.box
  obtain ⟨q0, q1, q2, q3, q4, q5, q6⟩ := cells7 _ dW _ _ _ _ _ _ _ _ W7.out.box
  go_wp2_with fail
  generalize hw : v8.alloc (.cells #[.string K, .int .i64 T1, .slice a1H n1W c1H, .int .i64 T2, .slice a2H n2W c2H, .int .i64 HS, .bool AS] 31) = v9 at *
  clear hd hw
  clear p0 p1 p2 p3 p4 p5 p6 q0 q1 q2 q3 q4 q5 q6
  refine (eqRow_true K T1 a1H n1W c1H T2 a2H n2W c2H HS AS a1W c1W a2W c2W Y1 Y2 _ (by omega) (by omega) H7.out.reads1 H7.out.reads2 W7.out.reads1 W7.out.reads2).mono ?_
  rintro e v10 ⟨rfl, hB⟩
  have W8 : Hd (BoxR dW K T1 a1W g1W n1W c1W Y1 T2 a2W g2W n2W c2W Y2 HS AS v10) := ⟨(W7.out.below hB)⟩
  have G8 : Hd (BoxR dG K T1 a1G g1G n1W c1G ((marks 1 n1W)) T2 a2G g2G n2W c2G ((marks (1 + n1W) n2W)) HS AS v10) := ⟨(G7.out.below hB)⟩
  have H8 : Hd (BoxR dH K T1 a1H g1H n1W c1H Y1 T2 a2H g2H n2W c2H Y2 HS AS v10) := ⟨(H7.out.below hB)⟩
  have B8 : Hd (Below w.heap.size w v10) := ⟨Below.next B7.out hB⟩
  clear W7 G7 H7 B7
  clear hB
  clear H8
  clear W8
  obtain ⟨p0, p1, p2, p3, p4, p5, p6⟩ := cells7 _ dG _ _ _ _ _ _ _ _ G8.out.box
  go_wp2_with fail
  clear p0 p1 p2 p3 p4 p5 p6
  refine (heldRow_o K T1 a1G g1G n1W c1G T2 a2G g2G n2W c2G HS AS 1 _ G8.out.row1 G8.out.row2 (by omega) (by omega) (by omega)).mono ?_
  rintro e v11 ⟨rfl, hB⟩
  have G9 : Hd (BoxR dG K T1 a1G g1G n1W c1G ((marks 1 n1W)) T2 a2G g2G n2W c2G ((marks (1 + n1W) n2W)) HS AS v11) := ⟨(G8.out.below hB)⟩
  have B9 : Hd (Below w.heap.size w v11) := ⟨Below.next B8.out hB⟩
  clear G8 B8
  clear hB
  go_wp2_with fail
  go_ret
  exact ⟨rfl, B9.out⟩

set_option maxRecDepth 100000 in
theorem lifted (os : Os) (started : os.Started) (H : Type) (enc : TypeId × Value → H) :
    ReturnsInHanded {} Tryd.checked os 5 .any (fun w args => (Rows.fnExactRowOfSpec.pre enc Tryd.prog Tryd.f5 Rows.fnExactRowOfRow.domain false w args ∧ laidMetH Tryd.prog Rows.fnExactRowOfRow.laid w) ∧ sizedMet enc Tryd.prog Tryd.f5 (OpenSpec.ofChange Rows.fnExactRowOfSpec) false w args)
      (Rows.fnExactRowOfSpec.post enc Tryd.prog Tryd.f5 false true false false) := by
  refine returnsInHanded_of_change_and (C := Tryd.checked) (X := fun w _ => laidMetH Tryd.prog Rows.fnExactRowOfRow.laid w) (fun _ _ _ hh h => h.of_heap hh) own started (by kernel_rfl) Tryd.func5
    (ChangeSpec.witness_shaped (enc := enc) (C := Tryd.checked) (os := os) (X := fun w _ => laidMetH Tryd.prog Rows.fnExactRowOfRow.laid w) false (World.laidAll Tryd.prog os Rows.fnExactRowOfRow.laid) #[.int .i64 0, .string ByteArray.empty, .int .i64 0, .string ByteArray.empty] 8 (World.laidAll_os _ _ _)
      (World.shaped_of_ZipB (by kernel_rfl) (by kernel_rfl)) (by kernel_rfl) (by kernel_rfl) (by kernel_rfl)
      (by rw [MakeChecks.laidMetH_plain _ _ _ (by kernel_rfl)]; exact laidMet_laidAll _ (by kernel_rfl) (by kernel_rfl))) ?_
  intro W base args ds gs before hval0 hW _ _ hL _
  have hval : ∀ (j : Nat) t v, Tryd.f5.params[j]? = some t → args[j]? = some v → Value.okWide Tryd.prog W .any base t v := hval0
  have hW' := hW
  obtain ⟨p, q, hA0, hV, rfl, hfz, hnd⟩ := hW
  have hA : DataW.TrodAll enc Tryd.prog W 0 (fun _ => true) true Tryd.f5.params.toList args.toList ds p := hA0
  rw [Tryd.params5] at hA hval
  obtain ⟨v0, vs0, d0, ds0, p0, q0, hargs, rfl, rfl, h0, r0⟩ := trodAll_cons hA
  obtain ⟨v1, vs1, d1, ds1, p1, q1, rfl, rfl, rfl, h1, r1⟩ := trodAll_cons r0
  obtain ⟨v2, vs2, d2, ds2, p2, q2, rfl, rfl, rfl, h2, r2⟩ := trodAll_cons r1
  obtain ⟨v3, vs3, d3, ds3, p3, q3, rfl, rfl, rfl, h3, r3⟩ := trodAll_cons r2
  obtain ⟨rfl, rfl, rfl⟩ := trodAll_nil r3
  obtain rfl : args = #[v0, v1, v2, v3] := by cases args; simp_all
  have hV1 : DataW.TrodVars enc Tryd.prog W (fun _ => true) Rows.fnExactRowOfSpec.vars gs q := hV
  obtain ⟨g1, g2, g3, g4, rfl⟩ : ∃ g1 g2 g3 g4, gs = [g1, g2, g3, g4] := by
    match gs, (vars_length hV1 : gs.length = 4) with
    | [g1, g2, g3, g4], _ => exact ⟨g1, g2, g3, g4, rfl⟩
  obtain ⟨a0, rfl, rfl, rfl, w0⟩ := open_int Tryd.underlying3 (hval 0 3 v0 rfl rfl) h0
  obtain ⟨a1, rfl, rfl, rfl, w1⟩ := open_string Tryd.underlying9 (hval 1 9 v1 rfl rfl) h1
  obtain ⟨a2, rfl, rfl, rfl, w2⟩ := open_int Tryd.underlying3 (hval 2 3 v2 rfl rfl) h2
  obtain ⟨a3, rfl, rfl, rfl, w3⟩ := open_string Tryd.underlying9 (hval 3 9 v3 rfl rfl) h3
  clear hA0 hval0
  refine (walk a0 w0 a1 w1 a2 w2 a3 w3 W ⟨all_of hL⟩).mono fun e W' ⟨he, hg⟩ => ?_
  subst he
  exact ⟨_, rfl, _, _, _, [], _, q, hW', trodAll_mk1 (shut_bool Tryd.underlying4 _), (trodAll_cons_mk (shut_int Tryd.underlying3 w0) (trodAll_cons_mk (shut_string Tryd.underlying9 w1) (trodAll_cons_mk (shut_int Tryd.underlying3 w2) (trodAll_cons_mk (shut_string Tryd.underlying9 w3) trodAll_mk0)))), Below.trodVars laidOut hg (by kernel_rfl) hV1, hg.frame _, fun h => by cases h⟩

theorem over : Rows.fnExactRowOfRow.holds Tryd.pinned (OpenSpec.ofChange Rows.fnExactRowOfSpec) :=
  OpenClaim.holds_of_wide 5 Tryd.f5 rfl rfl rfl rfl rfl rfl rfl ⟨rfl, rfl, rfl, rfl, rfl⟩ rfl rfl rfl rfl rfl (by kernel_rfl) Tryd.func5 (by kernel_rfl)
    (of_decide_eq_true (by kernel_rfl)) (by unfold Func.isWrapper; first | (rw [if_pos (by decide +kernel)]; kernel_rfl) | (rw [if_neg (by decide +kernel)]; exact ⟨rfl, rfl⟩))
    (fun os started H enc _ => lifted os started H enc)

theorem plain (f : FuncId) (fn : Func) (hf : Tryd.pinned.checked.prog.funcNamed Rows.fnExactRowOfRow.func = some f) (hfn : Tryd.pinned.checked.prog.funcs[f]? = some fn) :
    true = Tryd.pinned.checked.prog.looks [] ∧ ∀ (j : Nat) t, fn.params[j]? = some t → Tryd.pinned.checked.prog.wantsStandIn t = false := by
  obtain rfl : f = 5 := Option.some.inj ((show Tryd.prog.funcNamed Rows.fnExactRowOfRow.func = some 5 by kernel_rfl).symm.trans hf) |>.symm
  obtain rfl : fn = Tryd.f5 := (Option.some.inj (Tryd.func5.symm.trans hfn)).symm
  refine ⟨by kernel_rfl, fun j t ht => ?_⟩
  rw [Tryd.params5] at ht
  have hm : t ∈ [3, 9] := by first | simpa using Array.mem_of_getElem? ht | (have h := Array.mem_of_getElem? ht; simp at h ⊢; rcases h with h | h | h | h <;> simp [h])
  have hall : ([3, 9].all fun u => !Tryd.prog.wantsStandIn u) = true := by kernel_rfl
  exact (show Tryd.prog.wantsStandIn t = false by simpa using List.all_eq_true.1 hall t hm)

end Go.Proofs.YtpafjehphajbhaaDoor.fnExactRowOf

namespace Go.Proofs.YtpafjehphajbhaaDoor
theorem fnExactRowOfCard_holds : Rows.FnExactRowOfCardSaid :=
  Claim7.holds_tied_plain_at .later [] _ _ _ _ fnExactRowOf.over (fun _ h => by cases h) (by kernel_rfl) (fun _ h => by cases h) fnExactRowOf_row_tie rfl ⟨rfl, rfl⟩ (by kernel_rfl) rfl fnExactRowOf.plain (by kernel_rfl)
#print axioms fnExactRowOfCard_holds
end Go.Proofs.YtpafjehphajbhaaDoor
