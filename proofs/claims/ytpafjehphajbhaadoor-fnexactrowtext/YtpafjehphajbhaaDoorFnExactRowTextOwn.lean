/- At every row (its key and its cells together at most 1048576 bytes) the program answers the text that the specification answers, and whether there is one; it leaves its argument as it was. -/
import Derived.Test.YtpafjehphajbhaaDoorCards
import Derived.Test.YtpafjehphajbhaaDoorTie
import Derived.WalkKit
import Derived.ProofKit
import Derived.OpenShut
import Derived.ShutString
import Derived.ChangeOld
import Derived.Below
import Derived.OpenVars
import Derived.Lay
import Derived.MakeChecks
import Derived.SevenTiedAt
import Derived.Stop.Joined
import Derived.Lib.SmallJoins
import Derived.Test.YtpafjehphajbhaaDoorRowI
import Derived.Test.YtpafjehphajbhaaDoorRowU
import Derived.Test.YtpafjehphajbhaaDoorRowL
import Derived.Test.YtpafjehphajbhaaDoorRowX
namespace Go.Proofs.YtpafjehphajbhaaDoor.fnExactRowText
open Go.ChangeShapes Go.WideShapes Go.ChangeAt Go.RowKit
open Go.ChangeMaps (open_string shut_string)
set_option linter.unusedVariables false

theorem own : ownKnob Tryd.prog.godebug = none := by kernel_rfl
theorem laidOut : laidOutB Tryd.prog = true := by kernel_rfl

def IsRow (k : IntKind) (w : World) (a : Option Addr) (len cap : Nat) (zs : List Int) : Prop :=
  (a = none ∧ len = 0 ∧ cap = 0 ∧ zs = []) ∨
  ∃ x, a = some x ∧ len ≤ cap ∧ cap ≤ maxLen ∧ zs.length = cap ∧ (∀ i, i < zs.length → w.cell? (x.add i) = some (.int k (zs.getD i 0))) ∧ ∀ n ∈ zs, (Lit.int k n).wf = true

set_option maxRecDepth 4000 in
set_option maxHeartbeats 8000000 in
theorem walk (a0_0 : ByteArray) (w0_0 : a0_0.size ≤ maxLen) (a0_1 : Int) (w0_1 : (Lit.int .i64 a0_1).wf = true) (a0_2 : Option Addr) (len0_2 cap0_2 : Nat) (z0_2 : List Int) (a0_3 : Int) (w0_3 : (Lit.int .i64 a0_3).wf = true) (a0_4 : Option Addr) (len0_4 cap0_4 : Nat) (z0_4 : List Int) (a0_5 : Int) (w0_5 : (Lit.int .i64 a0_5).wf = true) (a0_6 : Bool) (w : World) (w0_2 : IsRow .u8 w a0_2 len0_2 cap0_2 z0_2) (w0_4 : IsRow .u8 w a0_4 len0_4 cap0_4 z0_4) (T : Hd (AllAt w)) :
    Calls Tryd.prog 4 #[.agg #[.string a0_0, .int .i64 a0_1, .slice a0_2 len0_2 cap0_2, .int .i64 a0_3, .slice a0_4 len0_4 cap0_4, .int .i64 a0_5, .bool a0_6]] w fun e w' => e = .returned (.bool true) ∧ Below w.heap.size w w' := by
  obtain ⟨bs, hr1⟩ := reads_of_row w0_2
  obtain ⟨cs, hr2⟩ := reads_of_row w0_4
  have hmax1 : Hd (len0_2 ≤ maxLen) := ⟨by
    rcases w0_2 with ⟨_, h, _⟩ | ⟨_, _, h1, h2, _⟩
    · rw [h]; exact Nat.zero_le _
    · exact Nat.le_trans h1 h2⟩
  have hmax2 : Hd (len0_4 ≤ maxLen) := ⟨by
    rcases w0_4 with ⟨_, h, _⟩ | ⟨_, _, h1, h2, _⟩
    · rw [h]; exact Nat.zero_le _
    · exact Nat.le_trans h1 h2⟩
  have hmk : Hd (a0_0.size ≤ maxLen) := ⟨w0_0⟩
  have A0 : Hd (ExR w w.heap.size a0_0 a0_1 a0_2 len0_2 cap0_2 a0_3 a0_4 len0_4 cap0_4 a0_5 a0_6 bs cs (w.alloc (.cells #[.string a0_0, .int .i64 a0_1, .slice a0_2 len0_2 cap0_2, .int .i64 a0_3, .slice a0_4 len0_4 cap0_4, .int .i64 a0_5, .bool a0_6] 26))) := ⟨alloc_new w _ rfl, hr1, hr2, below_lit w _, Nat.le_refl _⟩
  have HL1 : Hd (bs.length = len0_2) := ⟨hr1.1⟩
  have HL2 : Hd (cs.length = len0_4) := ⟨hr2.1⟩
  clear w0_0 w0_1 w0_2 w0_3 w0_4 w0_5 hr1 hr2
  go_enter Tryd.func4, Tryd.ntmps4
  go_wp2_with fail
  refine (szRow_n a0_0 a0_1 a0_2 len0_2 cap0_2 a0_3 a0_4 len0_4 cap0_4 a0_5 a0_6 _ hmk hmax1 hmax2).mono ?_
  rintro e w1 ⟨rfl, hB⟩
  have A1 : Hd (ExR w w.heap.size a0_0 a0_1 a0_2 len0_2 cap0_2 a0_3 a0_4 len0_4 cap0_4 a0_5 a0_6 bs cs w1) := ⟨A0.out.below hB⟩
  clear hB A0 hmax1 hmax2 hmk
  by_cases hb0 : (1048576 : Int) < (a0_0.size : Int) + (len0_2 : Int) + (len0_4 : Int)
  · rewrite [show leftRow a0_0.size len0_2 len0_4 = -1 from if_pos hb0]
    go_wp2_with fail
    go_ret
    exact ⟨rfl, A1.out.bel⟩
  rewrite [show leftRow a0_0.size len0_2 len0_4 = 1048576 - (a0_0.size : Int) - (len0_2 : Int) - (len0_4 : Int) from if_neg hb0]
  have hsz : ¬ (1048576 : Int) - (a0_0.size : Int) - (len0_2 : Int) - (len0_4 : Int) < 0 := by omega
  have hk : a0_0.size ≤ 1048576 := by omega
  have hlen1 : len0_2 ≤ 1048576 := by omega
  have hlen2 : len0_4 ≤ 1048576 := by omega
  clear hb0
  obtain ⟨S, h1⟩ : ∃ x, ((rS ⟨a0_0, a0_1, bs, a0_3, cs, a0_5, a0_6⟩).toArray) = x := ⟨_, rfl⟩
  have HS : Hd (((rS ⟨a0_0, a0_1, bs, a0_3, cs, a0_5, a0_6⟩).toArray) = S) := ⟨h1⟩
  clear h1
  obtain ⟨ok, h1⟩ : ∃ x, (rT ⟨a0_0, a0_1, bs, a0_3, cs, a0_5, a0_6⟩) = x := ⟨_, rfl⟩
  have HK : Hd ((rT ⟨a0_0, a0_1, bs, a0_3, cs, a0_5, a0_6⟩) = ok) := ⟨h1⟩
  clear h1
  have okf : (ok != ok) = false := by simp
  obtain ⟨p0, p1, p2, p3, p4, p5, p6⟩ := cells7 _ w.heap.size _ _ _ _ _ _ _ _ A1.out.box
  go_wp2_with fail
  clear p0 p1 p2 p3 p4 p5 p6
  refine (toRow_any a0_0 a0_1 a0_2 len0_2 cap0_2 a0_3 a0_4 len0_4 cap0_4 a0_5 a0_6 bs cs _ A1.out.reads1 A1.out.reads2 (by omega) (by omega)).mono ?_
  rintro e v1 ⟨g1, g2, rfl, hg1, hg, hR1, hR2, hB⟩
  have A2 : Hd (ExR w w.heap.size a0_0 a0_1 a0_2 len0_2 cap0_2 a0_3 a0_4 len0_4 cap0_4 a0_5 a0_6 bs cs v1) := ⟨(A1.out.below hB)⟩
  clear A1
  have R1 : Hd (Row v1 g1 bs ∧ Row v1 g2 cs) := ⟨hR1, hR2⟩
  clear hg1 hg hR1 hR2 hB
  go_wp2_with fail
  refine (specRowText_any a0_0 a0_1 (some ⟨g1, 0, none⟩) len0_2 len0_2 a0_3 (some ⟨g2, 0, none⟩) len0_4 len0_4 a0_5 a0_6 bs cs _ (row_at R1.out.1 HL1.out) (row_at R1.out.2 HL2.out) hlen1 hlen2).mono ?_
  rintro e v2 ⟨rfl, hB⟩
  rewrite [HS.out, HK.out]
  have A3 : Hd (ExR w w.heap.size a0_0 a0_1 a0_2 len0_2 cap0_2 a0_3 a0_4 len0_4 cap0_4 a0_5 a0_6 bs cs v2) := ⟨(A2.out.below hB)⟩
  clear A2
  clear hB R1
  obtain ⟨p0, p1, p2, p3, p4, p5, p6⟩ := cells7 _ w.heap.size _ _ _ _ _ _ _ _ A3.out.box
  go_wp2_with fail
  clear p0 p1 p2 p3 p4 p5 p6
  refine (toRow_any a0_0 a0_1 a0_2 len0_2 cap0_2 a0_3 a0_4 len0_4 cap0_4 a0_5 a0_6 bs cs _ A3.out.reads1 A3.out.reads2 (by omega) (by omega)).mono ?_
  rintro e v3 ⟨g1, g2, rfl, hg1, hg, hR1, hR2, hB⟩
  have hg2 := Nat.le_of_lt (Nat.lt_of_le_of_lt hg1 hg)
  have NEAX1 : Hd (w.heap.size < g1) := ⟨Nat.lt_of_lt_of_le (lt_of_block A3.out.box) hg1⟩
  have NEAX2 : Hd (w.heap.size < g2) := ⟨Nat.lt_of_lt_of_le (lt_of_block A3.out.box) hg2⟩
  have A4 : Hd (ExR w w.heap.size a0_0 a0_1 a0_2 len0_2 cap0_2 a0_3 a0_4 len0_4 cap0_4 a0_5 a0_6 bs cs (v3.alloc (.cells #[.string a0_0, .int .i64 a0_1, .slice (some ⟨g1, 0, none⟩) len0_2 len0_2, .int .i64 a0_3, .slice (some ⟨g2, 0, none⟩) len0_4 len0_4, .int .i64 a0_5, .bool a0_6] 31))) := ⟨(A3.out.below hB).below (below_lit v3 _)⟩
  clear A3
  have X4 : Hd (BoxR v3.heap.size a0_0 a0_1 (some ⟨g1, 0, none⟩) g1 len0_2 len0_2 bs a0_3 (some ⟨g2, 0, none⟩) g2 len0_4 len0_4 cs a0_5 a0_6 (v3.alloc (.cells #[.string a0_0, .int .i64 a0_1, .slice (some ⟨g1, 0, none⟩) len0_2 len0_2, .int .i64 a0_3, .slice (some ⟨g2, 0, none⟩) len0_4 len0_4, .int .i64 a0_5, .bool a0_6] 31))) := ⟨boxR_rows hR1 hR2 hg HL1.out HL2.out⟩
  clear hg1 hg hg2 hR1 hR2 hB
  generalize hd : v3.heap.size = dX at *
  obtain ⟨p0, p1, p2, p3, p4, p5, p6⟩ := cells7 _ dX _ _ _ _ _ _ _ _ X4.out.box
  go_wp2_with fail
  generalize hw : v3.alloc (.cells #[.string a0_0, .int .i64 a0_1, .slice (some ⟨g1, 0, none⟩) len0_2 len0_2, .int .i64 a0_3, .slice (some ⟨g2, 0, none⟩) len0_4 len0_4, .int .i64 a0_5, .bool a0_6] 31) = v4 at *
  clear hd hw
  clear p0 p1 p2 p3 p4 p5 p6
  refine (implRowText_any a0_0 a0_1 (some ⟨g1, 0, none⟩) len0_2 len0_2 a0_3 (some ⟨g2, 0, none⟩) len0_4 len0_4 a0_5 a0_6 bs cs _ X4.out.at1 X4.out.at2 hlen1 hlen2 ⟨T.out.below A4.out.bel⟩).mono ?_
  rintro e v5 ⟨rfl, hB⟩
  rewrite [HS.out, HK.out]
  have X5 : Hd (BoxR dX a0_0 a0_1 (some ⟨g1, 0, none⟩) g1 len0_2 len0_2 bs a0_3 (some ⟨g2, 0, none⟩) g2 len0_4 len0_4 cs a0_5 a0_6 v5) := ⟨(X4.out.below hB)⟩
  have A5 : Hd (ExR w w.heap.size a0_0 a0_1 a0_2 len0_2 cap0_2 a0_3 a0_4 len0_4 cap0_4 a0_5 a0_6 bs cs v5) := ⟨(A4.out.below hB)⟩
  clear X4 A4
  clear hB
  obtain ⟨p0, p1, p2, p3, p4, p5, p6⟩ := cells7 _ dX _ _ _ _ _ _ _ _ X5.out.box
  obtain ⟨q0, q1, q2, q3, q4, q5, q6⟩ := cells7 _ w.heap.size _ _ _ _ _ _ _ _ A5.out.box
  go_wp2_with fail
  clear p0 p1 p2 p3 p4 p5 p6 q0 q1 q2 q3 q4 q5 q6
  have KK : Hd (∀ w', Below v5.heap.size v5 w' → (Cells7 dX a0_0 a0_1 (some ⟨g1, 0, none⟩) len0_2 len0_2 a0_3 (some ⟨g2, 0, none⟩) len0_4 len0_4 a0_5 a0_6 w' ∧ Cells7 w.heap.size a0_0 a0_1 a0_2 len0_2 cap0_2 a0_3 a0_4 len0_4 cap0_4 a0_5 a0_6 w')) := ⟨fun w' hb => ⟨cells7_at (X5.out.below hb).box, cells7_at (A5.out.below hb).box⟩⟩
  have KD : Hd (Below v5.heap.size v5 v5.drew) := ⟨(Below.refl _ v5).drew⟩
  obtain ⟨⟨p0, p1, p2, p3, p4, p5, p6⟩, q0, q1, q2, q3, q4, q5, q6⟩ := KK.out _ (Below.refl _ v5)
  go_region_held (fun w' => (w'.cell? ⟨dX, 0, none⟩ = some (.string a0_0) ∧ w'.cell? ⟨dX, 1, none⟩ = some (.int .i64 a0_1) ∧ w'.cell? ⟨dX, 2, none⟩ = some (.slice (some ⟨g1, 0, none⟩) len0_2 len0_2) ∧ w'.cell? ⟨dX, 3, none⟩ = some (.int .i64 a0_3) ∧ w'.cell? ⟨dX, 4, none⟩ = some (.slice (some ⟨g2, 0, none⟩) len0_4 len0_4) ∧ w'.cell? ⟨dX, 5, none⟩ = some (.int .i64 a0_5) ∧ w'.cell? ⟨dX, 6, none⟩ = some (.bool a0_6)) ∧ (w'.cell? ⟨w.heap.size, 0, none⟩ = some (.string a0_0) ∧ w'.cell? ⟨w.heap.size, 1, none⟩ = some (.int .i64 a0_1) ∧ w'.cell? ⟨w.heap.size, 2, none⟩ = some (.slice a0_2 len0_2 cap0_2) ∧ w'.cell? ⟨w.heap.size, 3, none⟩ = some (.int .i64 a0_3) ∧ w'.cell? ⟨w.heap.size, 4, none⟩ = some (.slice a0_4 len0_4 cap0_4) ∧ w'.cell? ⟨w.heap.size, 5, none⟩ = some (.int .i64 a0_5) ∧ w'.cell? ⟨w.heap.size, 6, none⟩ = some (.bool a0_6))) (first | (with_reducible exact KK.out _ D2.out) | (with_reducible exact KK.out _ D1.out) | (with_reducible exact KK.out _ KD.out)) (first | (have G1 := D1; clear G1; go_at_call 11; refine (eqRow_true a0_0 a0_1 (some ⟨g1, 0, none⟩) len0_2 len0_2 a0_3 (some ⟨g2, 0, none⟩) len0_4 len0_4 a0_5 a0_6 (some ⟨y1, 0, none⟩) len0_2 (some ⟨y2, 0, none⟩) len0_4 bs cs _ ?_ ?_ ?_ ?_ ?_ ?_).mono ?_; omega; omega; exact (X5.out.below D1.out).reads1; exact (X5.out.below D1.out).reads2; exact R1.out.1.reads HL1.out; exact R1.out.2.reads HL2.out; rintro e v7 ⟨rfl, hb⟩; have D2 : Hd (Below v5.heap.size v5 v7) := ⟨Below.next D1.out hb⟩; clear hb) | (go_at_call 9; refine (toRow_any a0_0 a0_1 a0_2 len0_2 cap0_2 a0_3 a0_4 len0_4 cap0_4 a0_5 a0_6 bs cs _ ?_ ?_ ?_ ?_).mono ?_; exact A5.out.reads1.below rfl KD.out; exact A5.out.reads2.below rfl KD.out; omega; omega; rintro e v6 ⟨y1, y2, rfl, _, _, hR1, hR2, hb⟩; have D1 : Hd (Below v5.heap.size v5 v6) := ⟨Below.next KD.out hb⟩; have R1 : Hd (Row v6 y1 bs ∧ Row v6 y2 cs) := ⟨hR1, hR2⟩; clear hR1 hR2 hb))
  have X6 : Hd (BoxR dX a0_0 a0_1 (some ⟨g1, 0, none⟩) g1 len0_2 len0_2 bs a0_3 (some ⟨g2, 0, none⟩) g2 len0_4 len0_4 cs a0_5 a0_6 v7) := ⟨(X5.out.below D2.out)⟩
  have A6 : Hd (ExR w w.heap.size a0_0 a0_1 a0_2 len0_2 cap0_2 a0_3 a0_4 len0_4 cap0_4 a0_5 a0_6 bs cs v7) := ⟨(A5.out.below D2.out)⟩
  clear X5 A5
  clear KK KD D1 D2 R1
  clear p0 p1 p2 p3 p4 p5 p6 q0 q1 q2 q3 q4 q5 q6
  go_wp2_with fail
  go_ret
  exact ⟨rfl, A6.out.bel⟩

set_option maxRecDepth 100000 in
theorem lifted (os : Os) (started : os.Started) (H : Type) (enc : TypeId × Value → H) :
    ReturnsInHanded {} Tryd.checked os 4 .any (fun w args => (Rows.fnExactRowTextSpec.pre enc Tryd.prog Tryd.f4 Rows.fnExactRowTextRow.domain false w args ∧ laidMetH Tryd.prog Rows.fnExactRowTextRow.laid w) ∧ sizedMet enc Tryd.prog Tryd.f4 (OpenSpec.ofChange Rows.fnExactRowTextSpec) false w args)
      (Rows.fnExactRowTextSpec.post enc Tryd.prog Tryd.f4 false true false false) := by
  refine returnsInHanded_of_change_and (C := Tryd.checked) (X := fun w _ => laidMetH Tryd.prog Rows.fnExactRowTextRow.laid w) (fun _ _ _ hh h => h.of_heap hh) own started (by kernel_rfl) Tryd.func4
    (ChangeSpec.witness_shaped (enc := enc) (C := Tryd.checked) (os := os) (X := fun w _ => laidMetH Tryd.prog Rows.fnExactRowTextRow.laid w) false (World.laidAll Tryd.prog os Rows.fnExactRowTextRow.laid) #[.agg #[.string ByteArray.empty, .int .i64 0, .slice none 0 0, .int .i64 0, .slice none 0 0, .int .i64 0, .bool false]] 8 (World.laidAll_os _ _ _)
      (World.shaped_of_ZipB (by kernel_rfl) (by kernel_rfl)) (by kernel_rfl) (by kernel_rfl) (by kernel_rfl)
      (by rw [MakeChecks.laidMetH_plain _ _ _ (by kernel_rfl)]; exact laidMet_laidAll _ (by kernel_rfl) (by kernel_rfl))) ?_
  intro W base args ds gs before hval0 hW _ _ hL _
  have hval : ∀ (j : Nat) t v, Tryd.f4.params[j]? = some t → args[j]? = some v → Value.okWide Tryd.prog W .any base t v := hval0
  have hW' := hW
  obtain ⟨p, q, hA0, hV, rfl, hfz, hnd⟩ := hW
  have hA : DataW.TrodAll enc Tryd.prog W 0 (fun _ => true) true Tryd.f4.params.toList args.toList ds p := hA0
  rw [Tryd.params4] at hA hval
  obtain ⟨v0, vs0, d0, ds0, p0, q0, hargs, rfl, rfl, h0, r0⟩ := trodAll_cons hA
  obtain ⟨rfl, rfl, rfl⟩ := trodAll_nil r0
  obtain rfl : args = #[v0] := by cases args; simp_all
  have hV1 : DataW.TrodVars enc Tryd.prog W (fun _ => true) Rows.fnExactRowTextSpec.vars gs q := hV
  obtain ⟨g1, g2, g3, g4, rfl⟩ : ∃ g1 g2 g3 g4, gs = [g1, g2, g3, g4] := by
    match gs, (vars_length hV1 : gs.length = 4) with
    | [g1, g2, g3, g4], _ => exact ⟨g1, g2, g3, g4, rfl⟩
  have k0 := h0
  have lt0 : ∀ x ∈ p0, x.block < W.heap.size := by obtain ⟨m, hm⟩ := k0; exact DataW.trod_lt m _ _ _ hm
  obtain ⟨u0_0, u0_1, u0_2, u0_3, u0_4, u0_5, u0_6, rfl, ⟨_, _, h0_0⟩, ⟨_, _, h0_1⟩, ⟨_, _, h0_2⟩, ⟨_, _, h0_3⟩, ⟨_, _, h0_4⟩, ⟨_, _, h0_5⟩, ⟨_, _, h0_6⟩⟩ := open_row Tryd.underlying26 Tryd.underlying24 Tryd.underlying24 ⟨rfl, rfl, rfl, rfl, rfl, rfl, rfl⟩ ⟨by kernel_rfl, by kernel_rfl, by kernel_rfl, by kernel_rfl, by kernel_rfl, by kernel_rfl, by kernel_rfl⟩ (by kernel_rfl) (hval 0 26 v0 rfl rfl) h0
  obtain ⟨a0_0, g0_0, rfl, w0_0⟩ := DataW.trod_string Tryd.underlying9 h0_0
  simp only [List.cons.injEq, and_true] at g0_0
  subst g0_0
  obtain ⟨a0_1, g0_1, rfl, w0_1⟩ := DataW.trod_int Tryd.underlying3 h0_1
  simp only [List.cons.injEq, and_true] at g0_1
  subst g0_1
  obtain ⟨a0_2, len0_2, cap0_2, g0_2⟩ := Joins.slice_form Tryd.underlying22 h0_2
  simp only [List.cons.injEq, and_true] at g0_2
  subst g0_2
  obtain ⟨z0_2, w0_2⟩ : ∃ zs, IsRow .u8 W a0_2 len0_2 cap0_2 zs := by
    rcases open_ints Tryd.underlying22 Tryd.underlying5 (by kernel_rfl) h0_2 with ⟨hcs, _⟩ | ⟨x, l, c, zs, hcs, _, hl, hm, hz, _, hcell, hwz⟩
    · simp at hcs
      obtain ⟨rfl, rfl, rfl⟩ := hcs
      exact ⟨[], .inl ⟨rfl, rfl, rfl, rfl⟩⟩
    · simp at hcs
      obtain ⟨rfl, rfl, rfl⟩ := hcs
      exact ⟨zs, .inr ⟨_, rfl, hl, hm, by simpa using hz, hcell, hwz⟩⟩
  obtain ⟨a0_3, g0_3, rfl, w0_3⟩ := DataW.trod_int Tryd.underlying3 h0_3
  simp only [List.cons.injEq, and_true] at g0_3
  subst g0_3
  obtain ⟨a0_4, len0_4, cap0_4, g0_4⟩ := Joins.slice_form Tryd.underlying22 h0_4
  simp only [List.cons.injEq, and_true] at g0_4
  subst g0_4
  obtain ⟨z0_4, w0_4⟩ : ∃ zs, IsRow .u8 W a0_4 len0_4 cap0_4 zs := by
    rcases open_ints Tryd.underlying22 Tryd.underlying5 (by kernel_rfl) h0_4 with ⟨hcs, _⟩ | ⟨x, l, c, zs, hcs, _, hl, hm, hz, _, hcell, hwz⟩
    · simp at hcs
      obtain ⟨rfl, rfl, rfl⟩ := hcs
      exact ⟨[], .inl ⟨rfl, rfl, rfl, rfl⟩⟩
    · simp at hcs
      obtain ⟨rfl, rfl, rfl⟩ := hcs
      exact ⟨zs, .inr ⟨_, rfl, hl, hm, by simpa using hz, hcell, hwz⟩⟩
  obtain ⟨a0_5, g0_5, rfl, w0_5⟩ := DataW.trod_int Tryd.underlying3 h0_5
  simp only [List.cons.injEq, and_true] at g0_5
  subst g0_5
  obtain ⟨a0_6, g0_6, rfl⟩ := DataW.trod_bool Tryd.underlying4 h0_6
  simp only [List.cons.injEq, and_true] at g0_6
  subst g0_6
  clear hA0 hval0
  refine (walk a0_0 w0_0 a0_1 w0_1 a0_2 len0_2 cap0_2 z0_2 a0_3 w0_3 a0_4 len0_4 cap0_4 z0_4 a0_5 w0_5 a0_6 W w0_2 w0_4 ⟨all_of hL⟩).mono fun e W' ⟨he, hg⟩ => ?_
  subst he
  exact ⟨_, rfl, _, _, _, [], _, q, hW', trodAll_mk1 (shut_bool Tryd.underlying4 _), (trodAll_cons_mk (Below.trod laidOut (by kernel_rfl) (of_decide_eq_true (by kernel_rfl)) k0 hg lt0) trodAll_mk0), Below.trodVars laidOut hg (by kernel_rfl) hV1, hg.frame _, fun h => by cases h⟩

theorem over : Rows.fnExactRowTextRow.holds Tryd.pinned (OpenSpec.ofChange Rows.fnExactRowTextSpec) :=
  OpenClaim.holds_of_wide 4 Tryd.f4 rfl rfl rfl rfl rfl rfl rfl ⟨rfl, rfl, rfl, rfl, rfl⟩ rfl rfl rfl rfl rfl (by kernel_rfl) Tryd.func4 (by kernel_rfl)
    (of_decide_eq_true (by kernel_rfl)) (by unfold Func.isWrapper; first | (rw [if_pos (by decide +kernel)]; kernel_rfl) | (rw [if_neg (by decide +kernel)]; exact ⟨rfl, rfl⟩))
    (fun os started H enc _ => lifted os started H enc)

theorem plain (f : FuncId) (fn : Func) (hf : Tryd.pinned.checked.prog.funcNamed Rows.fnExactRowTextRow.func = some f) (hfn : Tryd.pinned.checked.prog.funcs[f]? = some fn) :
    true = Tryd.pinned.checked.prog.looks [] ∧ ∀ (j : Nat) t, fn.params[j]? = some t → Tryd.pinned.checked.prog.wantsStandIn t = false := by
  obtain rfl : f = 4 := Option.some.inj ((show Tryd.prog.funcNamed Rows.fnExactRowTextRow.func = some 4 by kernel_rfl).symm.trans hf) |>.symm
  obtain rfl : fn = Tryd.f4 := (Option.some.inj (Tryd.func4.symm.trans hfn)).symm
  refine ⟨by kernel_rfl, fun j t ht => ?_⟩
  rw [Tryd.params4] at ht
  have hm : t ∈ [26] := by simpa using Array.mem_of_getElem? ht
  have hall : ([26].all fun u => !Tryd.prog.wantsStandIn u) = true := by kernel_rfl
  exact (show Tryd.prog.wantsStandIn t = false by simpa using List.all_eq_true.1 hall t hm)

end Go.Proofs.YtpafjehphajbhaaDoor.fnExactRowText

namespace Go.Proofs.YtpafjehphajbhaaDoor
theorem fnExactRowTextCard_holds : Rows.FnExactRowTextCardSaid :=
  Claim7.holds_tied_plain_at .later [] _ _ _ _ fnExactRowText.over (fun _ h => by cases h) (by kernel_rfl) (fun _ h => by cases h) fnExactRowText_row_tie rfl ⟨rfl, rfl⟩ (by kernel_rfl) rfl fnExactRowText.plain (by kernel_rfl)
#print axioms fnExactRowTextCard_holds
end Go.Proofs.YtpafjehphajbhaaDoor
