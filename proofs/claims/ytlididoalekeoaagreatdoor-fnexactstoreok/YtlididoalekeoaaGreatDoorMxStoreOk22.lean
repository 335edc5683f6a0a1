/- Parts of the proof, one behind the other. -/
import Derived.Test.YtlididoalekeoaaGreatDoorMxStoreOk20
import Derived.Test.YtlididoalekeoaaGreatDoorMxStoreOk21
import Derived.Test.YtlididoalekeoaaGreatDoorMxStoreOk19
import Derived.Test.YtlididoalekeoaaGreatDoorMxStoreOk14
import Derived.Deep.RegionHeld3
/- Parts of the proof, one behind the other. -/
/- The program: RecOk. -/
namespace Go.Proofs.YtlididoalekeoaaGreatDoor
set_option maxRecDepth 4000
open Go.RowKit

def askB (r : RecD) : Bool := if r.who = 0 then (r.seq == 0) && (r.code == 0) else inB r.who 1 9 && inB r.seq 0 65535 && inB r.code 0 6
theorem recOk_ask (r : RecD) : recOk r = (askB r && (if r.kind = 1 then (rOk r.r && r.key.toList.isEmpty && (r.n == 0)) else if r.kind = 2 then (noRowB r.r && nameOkB r.key && (r.n == 0)) else if r.kind = 3 then (noRowB r.r && r.key.toList.isEmpty && inB r.n 0 7) else if r.kind = 4 then (noRowB r.r && r.key.toList.isEmpty && (r.n == 0) && (r.who != 0)) else false)) := by
  obtain ⟨k, r, key, n, who, seq, code⟩ := r
  simp only [recOk, whoB, askB]
  by_cases e1 : k = 1
  · subst e1
    rw [show inB 1 1 4 = true from rfl]
    by_cases h0 : who = 0
    · subst h0; cases rOk r <;> cases key.toList.isEmpty <;> simp <;> cases n == 0 <;> cases seq == 0 <;> cases code == 0 <;> rfl
    · cases rOk r <;> cases key.toList.isEmpty <;> simp [h0] <;> cases n == 0 <;> simp
  · by_cases e2 : k = 2
    · subst e2
      rw [show inB 2 1 4 = true from rfl]
      by_cases h0 : who = 0
      · subst h0; cases noRowB r <;> cases nameOkB key <;> simp <;> cases n == 0 <;> cases seq == 0 <;> cases code == 0 <;> rfl
      · cases noRowB r <;> cases nameOkB key <;> simp [h0] <;> cases n == 0 <;> simp
    · by_cases e3 : k = 3
      · subst e3
        rw [show inB 3 1 4 = true from rfl]
        by_cases h0 : who = 0
        · subst h0; cases noRowB r <;> cases key.toList.isEmpty <;> simp <;> cases inB n 0 7 <;> cases seq == 0 <;> cases code == 0 <;> rfl
        · cases noRowB r <;> cases key.toList.isEmpty <;> simp [h0] <;> cases inB n 0 7 <;> simp
      · by_cases e4 : k = 4
        · subst e4
          rw [show inB 4 1 4 = true from rfl]
          by_cases h0 : who = 0
          · subst h0; simp
          · cases noRowB r <;> cases key.toList.isEmpty <;> simp [h0] <;> cases n == 0 <;> first | (simp; done) | simp [h0]
        · have : inB k 1 4 = false := decide_eq_false (by omega)
          simp [this, e1, e2, e3, e4]

theorem isWord_any (x : Int) (w : World) : Calls Tryz.prog 74 #[.int .i64 x] w fun e w' => e = .returned (.bool (inB x 0 65535)) ∧ w' = w := by
  by_cases h1 : 0 ≤ x
  · by_cases h2 : x ≤ 65535
    · go_enter Tryz.func74, Tryz.ntmps74
      go_wp2
      go_ret
      exact ⟨ret_bool (by simp [inB, h1, h2]), rfl⟩
    · go_enter Tryz.func74, Tryz.ntmps74
      go_wp2
      go_ret
      exact ⟨ret_bool (by simp [inB, h1]; omega), rfl⟩
  · go_enter Tryz.func74, Tryz.ntmps74
    go_wp2
    go_ret
    exact ⟨ret_bool (by simp [inB]; omega), rfl⟩

theorem implRowOk_rd (cs : List Value) (a : RowD) (w : World) (h : RcRow w cs a) (hw : wtRow a ≤ 1048576) (T : Hd (AllAt w)) :
    Calls Tryz.prog 63 #[.agg cs.toArray] w fun e w' => e = .returned (.bool (rOk a)) ∧ Below w.heap.size w w' := by
  obtain ⟨l0, l1, l2, l3, l4, l5, l6⟩ := a
  simp only [RcRow] at h
  obtain ⟨x2, m2, d2, x4, m4, d4, rfl, _, r1, r3⟩ := h
  obtain ⟨_, _, _, q1, q2⟩ := r1
  simp only [List.cons.injEq, Value.slice.injEq, and_true, true_and] at q1
  obtain ⟨rfl, rfl, rfl⟩ := q1
  obtain ⟨_, _, _, q3, q4⟩ := r3
  simp only [List.cons.injEq, Value.slice.injEq, and_true, true_and] at q3
  obtain ⟨rfl, rfl, rfl⟩ := q3
  have c2 := (rdC_parts q2).2
  have c4 := (rdC_parts q4).2
  have h2 := c2.size
  have h4 := c4.size
  dsimp only at h2 h4
  simp only [wtRow, wtCell, wtB] at hw
  exact implRowOk_any l0 l1 x2 m2 d2 l3 x4 m4 d4 l5 l6 l2 l4 w (by omega) c2 c4 (by omega) (by omega) T

set_option maxHeartbeats 2000000 in
theorem implNoRow_rd (cs : List Value) (a : RowD) (w : World) (h : RcRow w cs a) :
    Calls Tryz.prog 64 #[.agg cs.toArray] w fun e w' => e = .returned (.bool (noRowB a)) ∧ Below w.heap.size w w' := by
  obtain ⟨l0, l1, l2, l3, l4, l5, l6⟩ := a
  simp only [RcRow] at h
  obtain ⟨x2, m2, d2, x4, m4, d4, rfl, _, r1, r3⟩ := h
  obtain ⟨_, _, _, q1, q2⟩ := r1
  simp only [List.cons.injEq, Value.slice.injEq, and_true, true_and] at q1
  obtain ⟨rfl, rfl, rfl⟩ := q1
  obtain ⟨_, _, _, q3, q4⟩ := r3
  simp only [List.cons.injEq, Value.slice.injEq, and_true, true_and] at q3
  obtain ⟨rfl, rfl, rfl⟩ := q3
  have C2 : Hd (CellAt w x2 m2 d2 l2) := ⟨(rdC_parts q2).2⟩
  have C4 : Hd (CellAt w x4 m4 d4 l4) := ⟨(rdC_parts q4).2⟩
  clear q2 q4
  have F0 : Hd (Bx 67 w #[.string l0, .int .i64 l1, .slice x2 m2 d2, .int .i64 l3, .slice x4 m4 d4, .int .i64 l5, .bool l6] (w.alloc (.cells #[.string l0, .int .i64 l1, .slice x2 m2 d2, .int .i64 l3, .slice x4 m4 d4, .int .i64 l5, .bool l6] 67))) := ⟨Bx.new _ w _⟩
  obtain ⟨ke, hke⟩ : ∃ x, l0.toList.isEmpty = x := ⟨_, rfl⟩
  obtain ⟨z1, hz1⟩ : ∃ x, noneB l1 m2 = x := ⟨_, rfl⟩
  have HZ1 : Hd (noneB l1 m2 = z1) := ⟨hz1⟩
  obtain ⟨z2, hz2⟩ : ∃ x, noneB l3 m4 = x := ⟨_, rfl⟩
  have HZ2 : Hd (noneB l3 m4 = z2) := ⟨hz2⟩
  obtain ⟨hz, hhz⟩ : ∃ x, (l5 == 0) = x := ⟨_, rfl⟩
  have HE : noRowB ⟨l0, l1, l2, l3, l4, l5, l6⟩ = (ke && z1 && z2 && hz && !l6) := by
    simp only [noRowB, C2.out.size, C4.out.size, hke, hz1, hz2, hhz]
  rewrite [HE]
  clear HE hz1 hz2
  go_enter Tryz.func64, Tryz.ntmps64
  cases ke with
  | false =>
    go_wp2_with fail
    go_ret
    exact ⟨rfl, F0.out.bel⟩
  | true =>
    go_wp2_with fail
    refine (noCell_any l1 x2 m2 d2 l2 _ (C2.out.below F0.out.bel)).mono ?_
    rintro e v1 ⟨rfl, hB⟩
    rewrite [HZ1.out]
    have F1 : Hd (Bx 67 w #[.string l0, .int .i64 l1, .slice x2 m2 d2, .int .i64 l3, .slice x4 m4 d4, .int .i64 l5, .bool l6] v1) := ⟨F0.out.below hB⟩
    clear hB F0
    have cc3 := F1.out.cell 3 rfl
    have cc4 := F1.out.cell 4 rfl
    have cc5 := F1.out.cell 5 rfl
    have cc6 := F1.out.cell 6 rfl
    cases z1 with
    | false =>
      go_wp2_with fail
      go_ret
      exact ⟨rfl, F1.out.bel⟩
    | true =>
      go_wp2_with fail
      refine (noCell_any l3 x4 m4 d4 l4 _ (C4.out.below F1.out.bel)).mono ?_
      rintro e v2 ⟨rfl, hB⟩
      rewrite [HZ2.out]
      have F2 : Hd (Bx 67 w #[.string l0, .int .i64 l1, .slice x2 m2 d2, .int .i64 l3, .slice x4 m4 d4, .int .i64 l5, .bool l6] v2) := ⟨F1.out.below hB⟩
      clear hB F1
      clear cc3 cc4 cc5 cc6
      have cc5 := F2.out.cell 5 rfl
      have cc6 := F2.out.cell 6 rfl
      cases z2 with
      | false =>
        go_wp2_with fail
        go_ret
        exact ⟨rfl, F2.out.bel⟩
      | true =>
        cases hz with
        | false =>
          go_wp2_with fail
          go_ret
          exact ⟨rfl, F2.out.bel⟩
        | true =>
          cases l6 with
          | false =>
            go_wp2_with fail
            go_ret
            exact ⟨rfl, F2.out.bel⟩
          | true =>
            go_wp2_with fail
            go_ret
            exact ⟨rfl, F2.out.bel⟩

set_option maxHeartbeats 2000000 in
theorem implAsked_rd (cs : List Value) (a : RecD) (w : World) (h : RcRec w cs a) :
    Calls Tryz.prog 62 #[.agg cs.toArray] w fun e w' => e = .returned (.bool (askB a)) ∧ Below w.heap.size w w' := by
  obtain ⟨l0, ⟨l1, l2, l3, l4, l5, l6, l7⟩, l8, l9, l10, l11, l12⟩ := a
  simp only [RcRec] at h
  obtain ⟨x3, m3, d3, x5, m5, d5, rfl, _, _⟩ := h
  have F0 : Hd (Bx 83 w #[.int .i64 l0, .string l1, .int .i64 l2, .slice x3 m3 d3, .int .i64 l4, .slice x5 m5 d5, .int .i64 l6, .bool l7, .string l8, .int .i64 l9, .int .i64 l10, .int .i64 l11, .int .i64 l12] (w.alloc (.cells #[.int .i64 l0, .string l1, .int .i64 l2, .slice x3 m3 d3, .int .i64 l4, .slice x5 m5 d5, .int .i64 l6, .bool l7, .string l8, .int .i64 l9, .int .i64 l10, .int .i64 l11, .int .i64 l12] 83))) := ⟨Bx.new _ w _⟩
  unfold askB
  dsimp only
  by_cases h0 : l10 = 0
  · subst h0
    obtain ⟨s0, hs0⟩ : ∃ x, (l11 == 0) = x := ⟨_, rfl⟩
    obtain ⟨c0, hc0⟩ : ∃ x, (l12 == 0) = x := ⟨_, rfl⟩
    rw [if_pos rfl, hs0, hc0]
    go_enter Tryz.func62, Tryz.ntmps62
    cases s0 with
    | false =>
      go_wp2_with fail
      go_ret
      exact ⟨rfl, F0.out.bel⟩
    | true =>
      go_wp2_with fail
      go_ret
      exact ⟨rfl, F0.out.bel⟩
  · have h0b : (l10 == 0) = false := by simpa using h0
    obtain ⟨g1, hg1⟩ : ∃ x, decide (0 < l10) = x := ⟨_, rfl⟩
    obtain ⟨g2, hg2⟩ : ∃ x, decide (l10 ≤ 9) = x := ⟨_, rfl⟩
    obtain ⟨g4, hg4⟩ : ∃ x, decide (0 ≤ l12) = x := ⟨_, rfl⟩
    obtain ⟨g5, hg5⟩ : ∃ x, decide (l12 ≤ 6) = x := ⟨_, rfl⟩
    obtain ⟨i2, hi2⟩ : ∃ x, inB l11 0 65535 = x := ⟨_, rfl⟩
    have HI2 : Hd (inB l11 0 65535 = i2) := ⟨hi2⟩
    have HE : (inB l10 1 9 && inB l11 0 65535 && inB l12 0 6) = (g1 && g2 && i2 && g4 && g5) := by
      rw [show inB l10 1 9 = (g1 && g2) by rw [← hg1, ← hg2, ← Bool.decide_and]; exact decide_eq_decide.2 (by omega), hi2, show inB l12 0 6 = (g4 && g5) by rw [← hg4, ← hg5, ← Bool.decide_and]; exact decide_eq_decide.2 (by omega)]
      cases g1 <;> cases g2 <;> cases i2 <;> cases g4 <;> cases g5 <;> rfl
    rw [if_neg h0, HE]
    clear hi2 HE
    have kg1 : decide (l10 > 0) = g1 := hg1
    have kg4 : decide (l12 ≥ 0) = g4 := hg4
    go_enter Tryz.func62, Tryz.ntmps62
    cases g1 with
    | false =>
      go_wp2_with fail
      go_ret
      exact ⟨rfl, F0.out.bel⟩
    | true =>
      cases g2 with
      | false =>
        go_wp2_with fail
        go_ret
        exact ⟨rfl, F0.out.bel⟩
      | true =>
        go_wp2_with fail
        refine (isWord_any l11 _).mono ?_
        rintro e v1 ⟨rfl, hB⟩
        replace hB := same_below hB
        rewrite [HI2.out]
        have F1 : Hd (Bx 83 w #[.int .i64 l0, .string l1, .int .i64 l2, .slice x3 m3 d3, .int .i64 l4, .slice x5 m5 d5, .int .i64 l6, .bool l7, .string l8, .int .i64 l9, .int .i64 l10, .int .i64 l11, .int .i64 l12] v1) := ⟨F0.out.below hB⟩
        clear hB F0
        have cc12 := F1.out.cell 12 rfl
        cases i2 with
        | false =>
          go_wp2_with fail
          go_ret
          exact ⟨rfl, F1.out.bel⟩
        | true =>
          cases g4 with
          | false =>
            go_wp2_with fail
            go_ret
            exact ⟨rfl, F1.out.bel⟩
          | true =>
            go_wp2_with fail
            go_ret
            exact ⟨rfl, F1.out.bel⟩

set_option maxHeartbeats 8000000 in
theorem implRecOk_rd (cs : List Value) (a : RecD) (w : World) (h : RcRec w cs a) (hw : wtRec a ≤ 1048576) (T : Hd (AllAt w)) :
    Calls Tryz.prog 40 #[.agg cs.toArray] w fun e w' => e = .returned (.bool (recOk a)) ∧ Below w.heap.size w w' := by
  have HA : Hd (RcRec w cs a) := ⟨h⟩
  obtain ⟨l0, ⟨l1, l2, l3, l4, l5, l6, l7⟩, l8, l9, l10, l11, l12⟩ := a
  simp only [RcRec] at h
  obtain ⟨x3, m3, d3, x5, m5, d5, rfl, _, r1⟩ := h
  unfold wtRec at hw
  dsimp only at hw
  have HW : Hd (wtRow ⟨l1, l2, l3, l4, l5, l6, l7⟩ ≤ 1048576 ∧ l8.size ≤ 1048576) := ⟨by omega, by omega⟩
  have HR : Hd (RcRow w [.string l1, .int .i64 l2, .slice x3 m3 d3, .int .i64 l4, .slice x5 m5 d5, .int .i64 l6, .bool l7] ⟨l1, l2, l3, l4, l5, l6, l7⟩) := ⟨r1⟩
  clear hw r1
  have F0 : Hd (Bx 83 w #[.int .i64 l0, .string l1, .int .i64 l2, .slice x3 m3 d3, .int .i64 l4, .slice x5 m5 d5, .int .i64 l6, .bool l7, .string l8, .int .i64 l9, .int .i64 l10, .int .i64 l11, .int .i64 l12] (w.alloc (.cells #[.int .i64 l0, .string l1, .int .i64 l2, .slice x3 m3 d3, .int .i64 l4, .slice x5 m5 d5, .int .i64 l6, .bool l7, .string l8, .int .i64 l9, .int .i64 l10, .int .i64 l11, .int .i64 l12] 83))) := ⟨Bx.new _ w _⟩
  obtain ⟨nr, hnr⟩ : ∃ x, noRowB ⟨l1, l2, l3, l4, l5, l6, l7⟩ = x := ⟨_, rfl⟩
  have HNR : Hd (noRowB ⟨l1, l2, l3, l4, l5, l6, l7⟩ = nr) := ⟨hnr⟩
  obtain ⟨ro, hro⟩ : ∃ x, rOk ⟨l1, l2, l3, l4, l5, l6, l7⟩ = x := ⟨_, rfl⟩
  have HRO : Hd (rOk ⟨l1, l2, l3, l4, l5, l6, l7⟩ = ro) := ⟨hro⟩
  obtain ⟨nk, hnk⟩ : ∃ x, nameOkB l8 = x := ⟨_, rfl⟩
  have HNK : Hd (nameOkB l8 = nk) := ⟨hnk⟩
  obtain ⟨ab, hab⟩ : ∃ x, askB ⟨l0, ⟨l1, l2, l3, l4, l5, l6, l7⟩, l8, l9, l10, l11, l12⟩ = x := ⟨_, rfl⟩
  have HAB : Hd (askB ⟨l0, ⟨l1, l2, l3, l4, l5, l6, l7⟩, l8, l9, l10, l11, l12⟩ = ab) := ⟨hab⟩
  obtain ⟨ke, hke⟩ : ∃ x, l8.toList.isEmpty = x := ⟨_, rfl⟩
  obtain ⟨nz, hnz⟩ : ∃ x, (l9 == 0) = x := ⟨_, rfl⟩
  obtain ⟨g0, hg0⟩ : ∃ x, decide (0 ≤ l9) = x := ⟨_, rfl⟩
  obtain ⟨g7, hg7⟩ : ∃ x, decide (l9 ≤ 7) = x := ⟨_, rfl⟩
  obtain ⟨wz, hwz⟩ : ∃ x, (l10 != 0) = x := ⟨_, rfl⟩
  have HE : recOk ⟨l0, ⟨l1, l2, l3, l4, l5, l6, l7⟩, l8, l9, l10, l11, l12⟩ = (ab && (if l0 = 1 then (ro && ke && nz) else if l0 = 2 then (nr && nk && nz) else if l0 = 3 then (nr && ke && g0 && g7) else if l0 = 4 then (nr && ke && nz && wz) else false)) := by
    rw [recOk_ask]
    dsimp only
    rw [hab, hro, hnr, hnk, hke, hnz, hwz, show inB l9 0 7 = (g0 && g7) by rw [← hg0, ← hg7, ← Bool.decide_and]; rfl]
    cases g0 <;> cases g7 <;> simp
  rewrite [HE]
  have kg0 : decide (l9 ≥ 0) = g0 := hg0
  clear HE hnr hro hnk hab
  by_cases e1 : l0 = 1
  · subst e1
    rw [if_pos rfl]
    go_enter Tryz.func40, Tryz.ntmps40
    go_wp2_with fail
    refine (implAsked_rd _ _ _ (rcRec_ok.below HA.out F0.out.bel)).mono ?_
    rintro e v1 ⟨rfl, hB⟩
    rewrite [HAB.out]
    have F1 : Hd (Bx 83 w #[.int .i64 1, .string l1, .int .i64 l2, .slice x3 m3 d3, .int .i64 l4, .slice x5 m5 d5, .int .i64 l6, .bool l7, .string l8, .int .i64 l9, .int .i64 l10, .int .i64 l11, .int .i64 l12] v1) := ⟨F0.out.below hB⟩
    clear hB F0
    have cc0 := F1.out.cell 0 rfl
    have cc1 := F1.out.cell 1 rfl
    have cc2 := F1.out.cell 2 rfl
    have cc3 := F1.out.cell 3 rfl
    have cc4 := F1.out.cell 4 rfl
    have cc5 := F1.out.cell 5 rfl
    have cc6 := F1.out.cell 6 rfl
    have cc7 := F1.out.cell 7 rfl
    have cc8 := F1.out.cell 8 rfl
    have cc9 := F1.out.cell 9 rfl
    have cc10 := F1.out.cell 10 rfl
    have cc11 := F1.out.cell 11 rfl
    have cc12 := F1.out.cell 12 rfl
    cases ab with
    | false =>
      go_wp2_with fail
      go_ret
      exact ⟨rfl, F1.out.bel⟩
    | true =>
      go_wp2_with fail
      refine (implRowOk_rd _ _ _ (rcRow_ok.below HR.out F1.out.bel) HW.out.1 ⟨T.out.below F1.out.bel⟩).mono ?_
      rintro e v2 ⟨rfl, hB⟩
      rewrite [HRO.out]
      have F2 : Hd (Bx 83 w #[.int .i64 1, .string l1, .int .i64 l2, .slice x3 m3 d3, .int .i64 l4, .slice x5 m5 d5, .int .i64 l6, .bool l7, .string l8, .int .i64 l9, .int .i64 l10, .int .i64 l11, .int .i64 l12] v2) := ⟨F1.out.below hB⟩
      clear hB F1
      clear cc0 cc1 cc2 cc3 cc4 cc5 cc6 cc7 cc8 cc9 cc10 cc11 cc12
      have cc0 := F2.out.cell 0 rfl
      have cc1 := F2.out.cell 1 rfl
      have cc2 := F2.out.cell 2 rfl
      have cc3 := F2.out.cell 3 rfl
      have cc4 := F2.out.cell 4 rfl
      have cc5 := F2.out.cell 5 rfl
      have cc6 := F2.out.cell 6 rfl
      have cc7 := F2.out.cell 7 rfl
      have cc8 := F2.out.cell 8 rfl
      have cc9 := F2.out.cell 9 rfl
      have cc10 := F2.out.cell 10 rfl
      have cc11 := F2.out.cell 11 rfl
      have cc12 := F2.out.cell 12 rfl
      cases ro with
      | false =>
        go_wp2_with fail
        go_ret
        exact ⟨rfl, F2.out.bel⟩
      | true =>
        cases ke with
        | false =>
          go_wp2_with fail
          go_ret
          exact ⟨rfl, F2.out.bel⟩
        | true =>
          go_wp2_with fail
          go_ret
          exact ⟨rfl, F2.out.bel⟩
  by_cases e2 : l0 = 2
  · subst e2
    rw [if_neg (by decide), if_pos rfl]
    go_enter Tryz.func40, Tryz.ntmps40
    go_wp2_with fail
    refine (implAsked_rd _ _ _ (rcRec_ok.below HA.out F0.out.bel)).mono ?_
    rintro e v1 ⟨rfl, hB⟩
    rewrite [HAB.out]
    have F1 : Hd (Bx 83 w #[.int .i64 2, .string l1, .int .i64 l2, .slice x3 m3 d3, .int .i64 l4, .slice x5 m5 d5, .int .i64 l6, .bool l7, .string l8, .int .i64 l9, .int .i64 l10, .int .i64 l11, .int .i64 l12] v1) := ⟨F0.out.below hB⟩
    clear hB F0
    have cc0 := F1.out.cell 0 rfl
    have cc1 := F1.out.cell 1 rfl
    have cc2 := F1.out.cell 2 rfl
    have cc3 := F1.out.cell 3 rfl
    have cc4 := F1.out.cell 4 rfl
    have cc5 := F1.out.cell 5 rfl
    have cc6 := F1.out.cell 6 rfl
    have cc7 := F1.out.cell 7 rfl
    have cc8 := F1.out.cell 8 rfl
    have cc9 := F1.out.cell 9 rfl
    have cc10 := F1.out.cell 10 rfl
    have cc11 := F1.out.cell 11 rfl
    have cc12 := F1.out.cell 12 rfl
    cases ab with
    | false =>
      go_wp2_with fail
      go_ret
      exact ⟨rfl, F1.out.bel⟩
    | true =>
      go_wp2_with fail
      refine (implNoRow_rd _ _ _ (rcRow_ok.below HR.out F1.out.bel)).mono ?_
      rintro e v2 ⟨rfl, hB⟩
      rewrite [HNR.out]
      have F2 : Hd (Bx 83 w #[.int .i64 2, .string l1, .int .i64 l2, .slice x3 m3 d3, .int .i64 l4, .slice x5 m5 d5, .int .i64 l6, .bool l7, .string l8, .int .i64 l9, .int .i64 l10, .int .i64 l11, .int .i64 l12] v2) := ⟨F1.out.below hB⟩
      clear hB F1
      clear cc0 cc1 cc2 cc3 cc4 cc5 cc6 cc7 cc8 cc9 cc10 cc11 cc12
      have cc0 := F2.out.cell 0 rfl
      have cc1 := F2.out.cell 1 rfl
      have cc2 := F2.out.cell 2 rfl
      have cc3 := F2.out.cell 3 rfl
      have cc4 := F2.out.cell 4 rfl
      have cc5 := F2.out.cell 5 rfl
      have cc6 := F2.out.cell 6 rfl
      have cc7 := F2.out.cell 7 rfl
      have cc8 := F2.out.cell 8 rfl
      have cc9 := F2.out.cell 9 rfl
      have cc10 := F2.out.cell 10 rfl
      have cc11 := F2.out.cell 11 rfl
      have cc12 := F2.out.cell 12 rfl
      cases nr with
      | false =>
        go_wp2_with fail
        go_ret
        exact ⟨rfl, F2.out.bel⟩
      | true =>
        go_wp2_with fail
        refine (implNameOk_any l8 _ HW.out.2).mono ?_
        rintro e v3 ⟨rfl, hB⟩
        replace hB := same_below hB
        rewrite [HNK.out]
        have F3 : Hd (Bx 83 w #[.int .i64 2, .string l1, .int .i64 l2, .slice x3 m3 d3, .int .i64 l4, .slice x5 m5 d5, .int .i64 l6, .bool l7, .string l8, .int .i64 l9, .int .i64 l10, .int .i64 l11, .int .i64 l12] v3) := ⟨F2.out.below hB⟩
        clear hB F2
        clear cc0 cc1 cc2 cc3 cc4 cc5 cc6 cc7 cc8 cc9 cc10 cc11 cc12
        have cc0 := F3.out.cell 0 rfl
        have cc1 := F3.out.cell 1 rfl
        have cc2 := F3.out.cell 2 rfl
        have cc3 := F3.out.cell 3 rfl
        have cc4 := F3.out.cell 4 rfl
        have cc5 := F3.out.cell 5 rfl
        have cc6 := F3.out.cell 6 rfl
        have cc7 := F3.out.cell 7 rfl
        have cc8 := F3.out.cell 8 rfl
        have cc9 := F3.out.cell 9 rfl
        have cc10 := F3.out.cell 10 rfl
        have cc11 := F3.out.cell 11 rfl
        have cc12 := F3.out.cell 12 rfl
        cases nk with
        | false =>
          go_wp2_with fail
          go_ret
          exact ⟨rfl, F3.out.bel⟩
        | true =>
          go_wp2_with fail
          go_ret
          exact ⟨rfl, F3.out.bel⟩
  by_cases e3 : l0 = 3
  · subst e3
    rw [if_neg (by decide), if_neg (by decide), if_pos rfl]
    go_enter Tryz.func40, Tryz.ntmps40
    go_wp2_with fail
    refine (implAsked_rd _ _ _ (rcRec_ok.below HA.out F0.out.bel)).mono ?_
    rintro e v1 ⟨rfl, hB⟩
    rewrite [HAB.out]
    have F1 : Hd (Bx 83 w #[.int .i64 3, .string l1, .int .i64 l2, .slice x3 m3 d3, .int .i64 l4, .slice x5 m5 d5, .int .i64 l6, .bool l7, .string l8, .int .i64 l9, .int .i64 l10, .int .i64 l11, .int .i64 l12] v1) := ⟨F0.out.below hB⟩
    clear hB F0
    have cc0 := F1.out.cell 0 rfl
    have cc1 := F1.out.cell 1 rfl
    have cc2 := F1.out.cell 2 rfl
    have cc3 := F1.out.cell 3 rfl
    have cc4 := F1.out.cell 4 rfl
    have cc5 := F1.out.cell 5 rfl
    have cc6 := F1.out.cell 6 rfl
    have cc7 := F1.out.cell 7 rfl
    have cc8 := F1.out.cell 8 rfl
    have cc9 := F1.out.cell 9 rfl
    have cc10 := F1.out.cell 10 rfl
    have cc11 := F1.out.cell 11 rfl
    have cc12 := F1.out.cell 12 rfl
    cases ab with
    | false =>
      go_wp2_with fail
      go_ret
      exact ⟨rfl, F1.out.bel⟩
    | true =>
      go_wp2_with fail
      refine (implNoRow_rd _ _ _ (rcRow_ok.below HR.out F1.out.bel)).mono ?_
      rintro e v2 ⟨rfl, hB⟩
      rewrite [HNR.out]
      have F2 : Hd (Bx 83 w #[.int .i64 3, .string l1, .int .i64 l2, .slice x3 m3 d3, .int .i64 l4, .slice x5 m5 d5, .int .i64 l6, .bool l7, .string l8, .int .i64 l9, .int .i64 l10, .int .i64 l11, .int .i64 l12] v2) := ⟨F1.out.below hB⟩
      clear hB F1
      clear cc0 cc1 cc2 cc3 cc4 cc5 cc6 cc7 cc8 cc9 cc10 cc11 cc12
      have cc0 := F2.out.cell 0 rfl
      have cc1 := F2.out.cell 1 rfl
      have cc2 := F2.out.cell 2 rfl
      have cc3 := F2.out.cell 3 rfl
      have cc4 := F2.out.cell 4 rfl
      have cc5 := F2.out.cell 5 rfl
      have cc6 := F2.out.cell 6 rfl
      have cc7 := F2.out.cell 7 rfl
      have cc8 := F2.out.cell 8 rfl
      have cc9 := F2.out.cell 9 rfl
      have cc10 := F2.out.cell 10 rfl
      have cc11 := F2.out.cell 11 rfl
      have cc12 := F2.out.cell 12 rfl
      cases nr with
      | false =>
        go_wp2_with fail
        go_ret
        exact ⟨rfl, F2.out.bel⟩
      | true =>
        cases ke with
        | false =>
          go_wp2_with fail
          go_ret
          exact ⟨rfl, F2.out.bel⟩
        | true =>
          cases g0 with
          | false =>
            go_wp2_with fail
            go_ret
            exact ⟨rfl, F2.out.bel⟩
          | true =>
            go_wp2_with fail
            go_ret
            exact ⟨rfl, F2.out.bel⟩
  by_cases e4 : l0 = 4
  · subst e4
    rw [if_neg (by decide), if_neg (by decide), if_neg (by decide), if_pos rfl]
    go_enter Tryz.func40, Tryz.ntmps40
    go_wp2_with fail
    refine (implAsked_rd _ _ _ (rcRec_ok.below HA.out F0.out.bel)).mono ?_
    rintro e v1 ⟨rfl, hB⟩
    rewrite [HAB.out]
    have F1 : Hd (Bx 83 w #[.int .i64 4, .string l1, .int .i64 l2, .slice x3 m3 d3, .int .i64 l4, .slice x5 m5 d5, .int .i64 l6, .bool l7, .string l8, .int .i64 l9, .int .i64 l10, .int .i64 l11, .int .i64 l12] v1) := ⟨F0.out.below hB⟩
    clear hB F0
    have cc0 := F1.out.cell 0 rfl
    have cc1 := F1.out.cell 1 rfl
    have cc2 := F1.out.cell 2 rfl
    have cc3 := F1.out.cell 3 rfl
    have cc4 := F1.out.cell 4 rfl
    have cc5 := F1.out.cell 5 rfl
    have cc6 := F1.out.cell 6 rfl
    have cc7 := F1.out.cell 7 rfl
    have cc8 := F1.out.cell 8 rfl
    have cc9 := F1.out.cell 9 rfl
    have cc10 := F1.out.cell 10 rfl
    have cc11 := F1.out.cell 11 rfl
    have cc12 := F1.out.cell 12 rfl
    cases ab with
    | false =>
      go_wp2_with fail
      go_ret
      exact ⟨rfl, F1.out.bel⟩
    | true =>
      go_wp2_with fail
      refine (implNoRow_rd _ _ _ (rcRow_ok.below HR.out F1.out.bel)).mono ?_
      rintro e v2 ⟨rfl, hB⟩
      rewrite [HNR.out]
      have F2 : Hd (Bx 83 w #[.int .i64 4, .string l1, .int .i64 l2, .slice x3 m3 d3, .int .i64 l4, .slice x5 m5 d5, .int .i64 l6, .bool l7, .string l8, .int .i64 l9, .int .i64 l10, .int .i64 l11, .int .i64 l12] v2) := ⟨F1.out.below hB⟩
      clear hB F1
      clear cc0 cc1 cc2 cc3 cc4 cc5 cc6 cc7 cc8 cc9 cc10 cc11 cc12
      have cc0 := F2.out.cell 0 rfl
      have cc1 := F2.out.cell 1 rfl
      have cc2 := F2.out.cell 2 rfl
      have cc3 := F2.out.cell 3 rfl
      have cc4 := F2.out.cell 4 rfl
      have cc5 := F2.out.cell 5 rfl
      have cc6 := F2.out.cell 6 rfl
      have cc7 := F2.out.cell 7 rfl
      have cc8 := F2.out.cell 8 rfl
      have cc9 := F2.out.cell 9 rfl
      have cc10 := F2.out.cell 10 rfl
      have cc11 := F2.out.cell 11 rfl
      have cc12 := F2.out.cell 12 rfl
      cases nr with
      | false =>
        go_wp2_with fail
        go_ret
        exact ⟨rfl, F2.out.bel⟩
      | true =>
        cases ke with
        | false =>
          go_wp2_with fail
          go_ret
          exact ⟨rfl, F2.out.bel⟩
        | true =>
          cases nz with
          | false =>
            go_wp2_with fail
            go_ret
            exact ⟨rfl, F2.out.bel⟩
          | true =>
            go_wp2_with fail
            go_ret
            exact ⟨rfl, F2.out.bel⟩
  have k1 : (l0 == 1) = false := by simpa using e1
  have k2 : (l0 == 2) = false := by simpa using e2
  have k3 : (l0 == 3) = false := by simpa using e3
  have k4 : (l0 == 4) = false := by simpa using e4
  rw [if_neg e1, if_neg e2, if_neg e3, if_neg e4]
  go_enter Tryz.func40, Tryz.ntmps40
  go_wp2_with fail
  refine (implAsked_rd _ _ _ (rcRec_ok.below HA.out F0.out.bel)).mono ?_
  rintro e v1 ⟨rfl, hB⟩
  rewrite [HAB.out]
  have F1 : Hd (Bx 83 w #[.int .i64 l0, .string l1, .int .i64 l2, .slice x3 m3 d3, .int .i64 l4, .slice x5 m5 d5, .int .i64 l6, .bool l7, .string l8, .int .i64 l9, .int .i64 l10, .int .i64 l11, .int .i64 l12] v1) := ⟨F0.out.below hB⟩
  clear hB F0
  have cc0 := F1.out.cell 0 rfl
  have cc1 := F1.out.cell 1 rfl
  have cc2 := F1.out.cell 2 rfl
  have cc3 := F1.out.cell 3 rfl
  have cc4 := F1.out.cell 4 rfl
  have cc5 := F1.out.cell 5 rfl
  have cc6 := F1.out.cell 6 rfl
  have cc7 := F1.out.cell 7 rfl
  have cc8 := F1.out.cell 8 rfl
  have cc9 := F1.out.cell 9 rfl
  have cc10 := F1.out.cell 10 rfl
  have cc11 := F1.out.cell 11 rfl
  have cc12 := F1.out.cell 12 rfl
  cases ab with
  | false =>
    go_wp2_with fail
    go_ret
    exact ⟨rfl, F1.out.bel⟩
  | true =>
    go_wp2_with fail
    go_ret
    exact ⟨rfl, F1.out.bel⟩

end Go.Proofs.YtlididoalekeoaaGreatDoor
/- Contracts: whether one of a list's records is not right, in the program. -/
namespace Go.Proofs.YtlididoalekeoaaGreatDoor
set_option maxRecDepth 4000
open Go.RowKit

set_option maxHeartbeats 4000000 in
theorem implTabOk1_rd (cs : List Value) (a : RecD) (w : World) (h : RcRec w cs a) (hw : wtRec a ≤ 1048576) (T : Hd (AllAt w)) :
    Calls Tryz.prog 39 #[.agg cs.toArray] w fun e w' => e = .returned (.bool (!recOk a)) ∧ Below w.heap.size w w' := by
  obtain ⟨r, hr⟩ : ∃ r, recOk a = r := ⟨_, rfl⟩
  have HR : Hd (recOk a = r) := ⟨hr⟩
  have HQ : Hd (RcRec w cs a ∧ wtRec a ≤ 1048576) := ⟨h, hw⟩
  rw [hr]
  clear hr hw
  obtain ⟨x3, m3, d3, x5, m5, d5, rfl, _⟩ := h
  obtain ⟨y0, h0⟩ : ∃ y, a.kind = y := ⟨_, rfl⟩
  have CF := heap_alloc_new w (.cells (List.toArray [.int .i64 a.kind, .string a.r.key, .int .i64 a.r.t1, .slice x3 m3 d3, .int .i64 a.r.t2, .slice x5 m5 d5, .int .i64 a.r.has, .bool a.r.aside, .string a.key, .int .i64 a.n, .int .i64 a.who, .int .i64 a.seq, .int .i64 a.code]) 83)
  have hrg := rangeA CF
  clear CF h0 y0
  go_enter Tryz.func39, Tryz.ntmps39
  go_wp2_with (show wpList _ _ _ (Oper.mk _ (Op.load 83 _) _ _ _ _ :: _) _ _; refine wpList_load_to 83 _ rfl rfl w.heap.size 0 rfl [.int .i64 a.kind, .string a.r.key, .int .i64 a.r.t1, .slice x3 m3 d3, .int .i64 a.r.t2, .slice x5 m5 d5, .int .i64 a.r.has, .bool a.r.aside, .string a.key, .int .i64 a.n, .int .i64 a.who, .int .i64 a.seq, .int .i64 a.code] hrg Tryz.underlying83 rfl infoRec ?_)
  refine (implRecOk_rd _ a _ (rcRec_ok.below HQ.out.1 (below_lit w _)) HQ.out.2 ⟨T.out.below (below_lit w _)⟩).mono ?_
  rintro e w1 ⟨rfl, hb⟩
  rewrite [HR.out]
  have B1 : Hd (Below w.heap.size w w1) := ⟨Below.next (below_lit w _) hb⟩
  clear hb hrg
  go_wp2_with fail
  go_ret
  exact ⟨rfl, B1.out⟩

end Go.Proofs.YtlididoalekeoaaGreatDoor
/- Contracts: IndexFunc and ContainsFunc over records, in the program. -/
namespace Go.Proofs.YtlididoalekeoaaGreatDoor
set_option maxRecDepth 4000
open Go.RowKit

/-- The place of the first that is not right; -1 where there is none. -/
def badF : List RecD → Int → Int
  | [], _ => -1
  | r :: s, i => if recOk r = false then i else badF s (i + 1)
theorem badF_sign : ∀ (ls : List RecD) (i : Int), 0 ≤ i → (decide (0 ≤ badF ls i)) = !(ls.all recOk)
  | [], _, _ => rfl
  | r :: s, i, h => by
    rw [badF, List.all_cons]
    cases hr : recOk r with
    | false => simp [h]
    | true => simp [badF_sign s (i + 1) (by omega)]
theorem badF_nil {ls : List RecD} {k : Nat} (i : Int) (h : ls.length ≤ k) : badF (ls.drop k) i = -1 := by
  rw [List.drop_of_length_le h]; rfl
theorem badF_at {ls : List RecD} {k : Nat} {r : RecD} (i : Int) (h : ls[k]? = some r) : badF (ls.drop k) i = if recOk r = false then i else badF (ls.drop (k + 1)) (i + 1) := by
  obtain ⟨hk, rfl⟩ := List.getElem?_eq_some_iff.1 h
  rw [List.drop_eq_getElem_cons hk, badF]

set_option maxHeartbeats 4000000 in
theorem indexRec_any (ao : Option Addr) (len cap : Nat) (ls : List RecD) (w : World) (h : RcRecL w [.slice ao len cap] ls) (hw : ∀ (j : Nat) r, ls[j]? = some r → wtRec r ≤ 1048576) (T : Hd (AllAt w)) :
    Calls Tryz.prog 61 #[.slice ao len cap, .func (.func 39) #[] #[]] w fun e w' => e = .returned (.int .i64 (badF ls 0)) ∧ Below w.heap.size w w' := by
  have HL : Hd (RcRecL w [.slice ao len cap] ls ∧ ∀ (j : Nat) r, ls[j]? = some r → wtRec r ≤ 1048576) := ⟨h, hw⟩
  obtain ⟨hl, hm9⟩ := rdS_len h
  have hm1' : len ≤ 9223372036854775807 := by unfold maxLen at hm9; exact hm9
  obtain ⟨R, hR⟩ : ∃ R, badF ls 0 = R := ⟨_, rfl⟩
  rw [hR]
  have HN : Hd (ls.length = len ∧ badF (ls.drop 0) 0 = R) := ⟨hl, hR⟩
  clear h hw hl hR hm9
  go_enter Tryz.func61, Tryz.ntmps61
  go_wp2_with fail
  go_loopw [8] (fun i wr => ∃ k : Nat, k ≤ len ∧ i = .int .i64 k ∧ Hd (badF (ls.drop k) (k : Int) = R) ∧ Hd (Below w.heap.size w wr)) (fun i _ => len - (intOf i).toNat)
  case atStart => exact ⟨0, Nat.zero_le _, rfl, ⟨HN.out.2⟩, ⟨Below.refl _ _⟩⟩
  case round =>
    obtain ⟨k, hk, rfl, HK, HB⟩ := hrel
    by_cases hlt : k < len
    · have hlt' : (k : Int) < (len : Int) := by omega
      have h0 : (0 : Int) ≤ (k : Int) := by omega
      obtain ⟨a, ha⟩ := get_some (l := ls) (j := k) (by rw [HN.out.1]; exact hlt)
      obtain ⟨q1, o1, c, e1, hcn, r1, z1⟩ := rdS_get HL.out.1 ha
      subst e1
      have hrg : wr.rangeAt q1 (o1 + k * 13) c := fun j v hv => cell_below (z1 j v hv) HB.out
      have hinf : (Tryz.prog.info? 83).map (·.size) = some c.length := by rw [infoRec, hcn]
      have Q : Hd (RcRec wr c a ∧ wtRec a ≤ 1048576) := ⟨rcRec_ok.below r1 HB.out, HL.out.2 k a ha⟩
      obtain ⟨s, hs⟩ : ∃ s, recOk a = s := ⟨_, rfl⟩
      have HS : Hd (recOk a = s) := ⟨hs⟩
      have HE : Hd (R = if s = false then (k : Int) else badF (ls.drop (k + 1)) ((k + 1 : Nat) : Int)) := ⟨by rw [← HK.out, badF_at _ ha, hs]; rfl⟩
      clear ha z1 r1 hs
      go_wp2_with (show wpList _ _ _ (Oper.mk _ (Op.load 83 _) _ _ _ _ :: _) _ _; refine wpList_load_to 83 _ rfl rfl q1 (o1 + k * 13) rfl c hrg Tryz.underlying83 rfl hinf ?_)
      refine (implTabOk1_rd c a _ Q.out.1 Q.out.2 ⟨T.out.below HB.out⟩).mono ?_
      rintro e w1 ⟨rfl, hb⟩
      rewrite [HS.out]
      have HB1 : Hd (Below w.heap.size w w1) := ⟨Below.next HB.out hb⟩
      clear hb Q HB hrg hinf HS
      cases s
      · have HF : Hd (R = (k : Int)) := ⟨by rw [HE.out]; rfl⟩
        clear HE
        go_wp2_with fail
        go_ret
        exact ⟨by rw [HF.out]; rfl, HB1.out⟩
      · have HF : Hd (badF (ls.drop (k + 1)) ((k + 1 : Nat) : Int) = R) := ⟨by rw [HE.out]; rfl⟩
        clear HE
        go_wp2_with fail
        go_roundw
        case rel => exact ⟨k + 1, by omega, by go_num, HF, HB1⟩
        case measure => simp [intOf]; omega
    · have HF : Hd (R = -1) := ⟨by rw [← HK.out]; exact badF_nil _ (by have := HN.out.1; omega)⟩
      go_wp2_with fail
      go_ret
      exact ⟨by rw [HF.out]; rfl, HB.out⟩
theorem containsRec_any (ao : Option Addr) (len cap : Nat) (ls : List RecD) (w : World) (h : RcRecL w [.slice ao len cap] ls) (hw : ∀ (j : Nat) r, ls[j]? = some r → wtRec r ≤ 1048576) (T : Hd (AllAt w)) :
    Calls Tryz.prog 37 #[.slice ao len cap, .func (.func 39) #[] #[]] w fun e w' => e = .returned (.bool (!(ls.all recOk))) ∧ Below w.heap.size w w' := by
  have HL : Hd (RcRecL w [.slice ao len cap] ls ∧ ∀ (j : Nat) r, ls[j]? = some r → wtRec r ≤ 1048576) := ⟨h, hw⟩
  obtain ⟨R, hR⟩ : ∃ R, badF ls 0 = R := ⟨_, rfl⟩
  obtain ⟨z, hz⟩ : ∃ z, (!(ls.all recOk)) = z := ⟨_, rfl⟩
  have HR : Hd (badF ls 0 = R ∧ z = decide (0 ≤ R)) := ⟨hR, by rw [← hz, ← hR]; exact (badF_sign ls 0 (by omega)).symm⟩
  rw [hz]
  clear h hw hR hz
  go_enter Tryz.func37, Tryz.ntmps37
  go_wp2_with fail
  refine (indexRec_any ao len cap ls _ HL.out.1 HL.out.2 T).mono ?_
  rintro e w1 ⟨rfl, hb⟩
  rewrite [HR.out.1]
  have B1 : Hd (Below w.heap.size w w1) := ⟨hb⟩
  clear hb HL
  by_cases hc : 0 ≤ R
  · go_wp2_with fail
    go_ret
    exact ⟨by rw [HR.out.2, decide_eq_true (by omega)]; rfl, B1.out⟩
  · go_wp2_with fail
    go_ret
    exact ⟨by rw [HR.out.2, decide_eq_false (by omega)]; rfl, B1.out⟩

end Go.Proofs.YtlididoalekeoaaGreatDoor
/- Contracts: lists that go up, in the program. -/
namespace Go.Proofs.YtlididoalekeoaaGreatDoor
set_option maxRecDepth 4000
open Go.RowKit

theorem keyOfRow_any (cs : List Value) (a : RowD) (w : World) (h : RdRow w cs a) :
    Calls Tryz.prog 34 #[.agg cs.toArray] w fun e w' => e = .returned (.string a.key) ∧ Below w.heap.size w w' := by
  obtain ⟨l0, l1, l2, l3, l4, l5, l6⟩ := a
  simp only [RdRow] at h
  obtain ⟨x2, m2, d2, x4, m4, d4, rfl, _⟩ := h
  dsimp only
  go_enter Tryz.func34, Tryz.ntmps34
  go_wp2
  go_ret
  exact ⟨rfl, below_lit w _⟩
theorem whoOfMark_any (cs : List Value) (a : MarkD) (w : World) (h : RdMark w cs a) :
    Calls Tryz.prog 36 #[.agg cs.toArray] w fun e w' => e = .returned (.int .i64 a.who) ∧ Below w.heap.size w w' := by
  obtain ⟨l0, l1, l2⟩ := a
  simp only [RdMark] at h
  subst h
  dsimp only
  go_enter Tryz.func36, Tryz.ntmps36
  go_wp2
  go_ret
  exact ⟨rfl, below_lit w _⟩

set_option maxHeartbeats 4000000 in
theorem ascRow_any (ao : Option Addr) (len cap : Nat) (ls : List RowD) (w : World) (h : RdRowS w [.slice ao len cap] ls) (hw : len ≤ 1073741824) :
    Calls Tryz.prog 33 #[.slice ao len cap, .func (.func 34) #[] #[]] w fun e w' => e = .returned (.bool (ascB ltRow ls)) ∧ Below w.heap.size w w' := by
  have HL : Hd (RdRowS w [.slice ao len cap] ls) := ⟨h⟩
  obtain ⟨hl, _⟩ := rdS_len h
  obtain ⟨R, hR⟩ : ∃ R, ascB ltRow ls = R := ⟨_, rfl⟩
  rw [hR]
  have HN : Hd (ls.length = len ∧ ascB ltRow (ls.drop 0) = R) := ⟨hl, hR⟩
  clear h hl hR
  go_enter Tryz.func33, Tryz.ntmps33
  go_wp2_with fail
  go_loopw [5] (fun i wr => ∃ j : Nat, i = .int .i64 (((j + 1 : Nat) : Int)) ∧ j ≤ len ∧ Hd (ascB ltRow (ls.drop j) = R) ∧ Hd (Below w.heap.size w wr)) (fun i _ => len + 1 - (intOf i).toNat)
  case atStart => exact ⟨0, rfl, Nat.zero_le _, ⟨HN.out.2⟩, ⟨Below.refl _ _⟩⟩
  case round =>
    obtain ⟨j, rfl, hj, HK, HB⟩ := hrel
    by_cases hlt : j + 1 < len
    · have hlt' : ((j + 1 : Nat) : Int) < (len : Int) := by omega
      have h0 : (0 : Int) ≤ ((j + 1 : Nat) : Int) := by omega
      have hs : IntKind.i64.wrap (((j + 1 : Nat) : Int) - 1) = (j : Int) := by rw [IntKind.wrap_i64]; omega
      have hs3 : IntKind.i64.wrap ((j : Int) + 1 - 1) = (j : Int) := by rw [IntKind.wrap_i64]; omega
      have hs4 : IntKind.i64.wrap (j : Int) = (j : Int) := by rw [IntKind.wrap_i64]; omega
      have hj0 : (0 : Int) ≤ (j : Int) := by omega
      have hjl : (j : Int) < (len : Int) := by omega
      obtain ⟨a, ha⟩ := get_some (l := ls) (j := j) (by rw [HN.out.1]; omega)
      obtain ⟨b, hb⟩ := get_some (l := ls) (j := j + 1) (by rw [HN.out.1]; exact hlt)
      have HE : Hd (R = (ltRow a b && ascB ltRow (ls.drop (j + 1)))) := ⟨by rw [← HK.out]; exact ascB_at ha hb⟩
      obtain ⟨q1, o1, k1, e1, _, r1, z1⟩ := rdS_get HL.out ha
      obtain ⟨q2, o2, k2, e2, _, r2, z2⟩ := rdS_get HL.out hb
      subst e1
      simp only [Option.some.injEq, Addr.mk.injEq, and_true] at e2
      obtain ⟨rfl, rfl⟩ := e2
      replace r1 := rdRow_ok.below r1 HB.out
      replace r2 := rdRow_ok.below r2 HB.out
      have Q : Hd (RdRow wr k1 a ∧ RdRow wr k2 b) := ⟨r1, r2⟩
      obtain ⟨a0, a1, a2, a3, a4, a5, a6⟩ := a
      obtain ⟨b0, b1, b2, b3, b4, b5, b6⟩ := b
      obtain ⟨x12, x13, x14, x22, x23, x24, rfl, _⟩ := r1
      obtain ⟨y12, y13, y14, y22, y23, y24, rfl, _⟩ := r2
      have t0 := cell_below (z1 0 _ rfl) HB.out
      have u0 := cell_below (z2 0 _ rfl) HB.out
      have t1 := cell_below (z1 1 _ rfl) HB.out
      have u1 := cell_below (z2 1 _ rfl) HB.out
      have t2 := cell_below (z1 2 _ rfl) HB.out
      have u2 := cell_below (z2 2 _ rfl) HB.out
      have t3 := cell_below (z1 3 _ rfl) HB.out
      have u3 := cell_below (z2 3 _ rfl) HB.out
      have t4 := cell_below (z1 4 _ rfl) HB.out
      have u4 := cell_below (z2 4 _ rfl) HB.out
      have t5 := cell_below (z1 5 _ rfl) HB.out
      have u5 := cell_below (z2 5 _ rfl) HB.out
      have t6 := cell_below (z1 6 _ rfl) HB.out
      have u6 := cell_below (z2 6 _ rfl) HB.out
      simp only [Nat.add_zero] at t0 u0
      obtain ⟨s, hsq⟩ : ∃ s, ltRow ⟨a0, a1, a2, a3, a4, a5, a6⟩ ⟨b0, b1, b2, b3, b4, b5, b6⟩ = s := ⟨_, rfl⟩
      rw [hsq] at HE
      have hge : ∀ W, (binOp BinOp.geq 9 (.string a0) (.string b0)).run Tryz.prog W = .ok (.bool (!s)) W := fun W => by
        rw [← hsq]
        rfl
      clear ha hb z1 z2 hsq
      go_wp2_with fail
      have KK : Hd (∀ w', Below wr.heap.size wr w' → (w'.cell? ⟨q1, o1 + j * 7, none⟩ = some (.string a0) ∧ w'.cell? ⟨q1, o1 + j * 7 + 1, none⟩ = some (.int .i64 a1) ∧ w'.cell? ⟨q1, o1 + j * 7 + 2, none⟩ = some (.slice x12 x13 x14) ∧ w'.cell? ⟨q1, o1 + j * 7 + 3, none⟩ = some (.int .i64 a3) ∧ w'.cell? ⟨q1, o1 + j * 7 + 4, none⟩ = some (.slice x22 x23 x24) ∧ w'.cell? ⟨q1, o1 + j * 7 + 5, none⟩ = some (.int .i64 a5) ∧ w'.cell? ⟨q1, o1 + j * 7 + 6, none⟩ = some (.bool a6) ∧ w'.cell? ⟨q1, o1 + (j + 1) * 7, none⟩ = some (.string b0) ∧ w'.cell? ⟨q1, o1 + (j + 1) * 7 + 1, none⟩ = some (.int .i64 b1) ∧ w'.cell? ⟨q1, o1 + (j + 1) * 7 + 2, none⟩ = some (.slice y12 y13 y14) ∧ w'.cell? ⟨q1, o1 + (j + 1) * 7 + 3, none⟩ = some (.int .i64 b3) ∧ w'.cell? ⟨q1, o1 + (j + 1) * 7 + 4, none⟩ = some (.slice y22 y23 y24) ∧ w'.cell? ⟨q1, o1 + (j + 1) * 7 + 5, none⟩ = some (.int .i64 b5) ∧ w'.cell? ⟨q1, o1 + (j + 1) * 7 + 6, none⟩ = some (.bool b6))) := ⟨fun w' hb => ⟨cell_below t0 hb, cell_below t1 hb, cell_below t2 hb, cell_below t3 hb, cell_below t4 hb, cell_below t5 hb, cell_below t6 hb, cell_below u0 hb, cell_below u1 hb, cell_below u2 hb, cell_below u3 hb, cell_below u4 hb, cell_below u5 hb, cell_below u6 hb⟩⟩
      have D0 : Hd (Below wr.heap.size wr wr.drew) := ⟨(Below.refl _ wr).drew⟩
      go_region_held (fun w' => w'.cell? ⟨q1, o1 + j * 7, none⟩ = some (.string a0) ∧ w'.cell? ⟨q1, o1 + j * 7 + 1, none⟩ = some (.int .i64 a1) ∧ w'.cell? ⟨q1, o1 + j * 7 + 2, none⟩ = some (.slice x12 x13 x14) ∧ w'.cell? ⟨q1, o1 + j * 7 + 3, none⟩ = some (.int .i64 a3) ∧ w'.cell? ⟨q1, o1 + j * 7 + 4, none⟩ = some (.slice x22 x23 x24) ∧ w'.cell? ⟨q1, o1 + j * 7 + 5, none⟩ = some (.int .i64 a5) ∧ w'.cell? ⟨q1, o1 + j * 7 + 6, none⟩ = some (.bool a6) ∧ w'.cell? ⟨q1, o1 + (j + 1) * 7, none⟩ = some (.string b0) ∧ w'.cell? ⟨q1, o1 + (j + 1) * 7 + 1, none⟩ = some (.int .i64 b1) ∧ w'.cell? ⟨q1, o1 + (j + 1) * 7 + 2, none⟩ = some (.slice y12 y13 y14) ∧ w'.cell? ⟨q1, o1 + (j + 1) * 7 + 3, none⟩ = some (.int .i64 b3) ∧ w'.cell? ⟨q1, o1 + (j + 1) * 7 + 4, none⟩ = some (.slice y22 y23 y24) ∧ w'.cell? ⟨q1, o1 + (j + 1) * 7 + 5, none⟩ = some (.int .i64 b5) ∧ w'.cell? ⟨q1, o1 + (j + 1) * 7 + 6, none⟩ = some (.bool b6)) (first | (with_reducible exact KK.out _ D2.out) | (with_reducible exact KK.out _ D1.out) | (with_reducible exact KK.out _ D0.out))
        (first | (have G1 := D1; clear G1; go_at_call 34; refine (keyOfRow_any _ ⟨b0, b1, b2, b3, b4, b5, b6⟩ _ (rdRow_ok.below Q.out.2 D1.out)).mono ?_; rintro e w2 ⟨rfl, hB⟩; have D2 : Hd (Below wr.heap.size wr w2) := ⟨Below.next D1.out hB⟩; clear hB) | (go_at_call 34; refine (keyOfRow_any _ ⟨a0, a1, a2, a3, a4, a5, a6⟩ _ (rdRow_ok.below Q.out.1 D0.out)).mono ?_; rintro e w1 ⟨rfl, hB⟩; have D1 : Hd (Below wr.heap.size wr w1) := ⟨Below.next D0.out hB⟩; clear hB))
      all_goals
        have HB2 : Hd (Below w.heap.size w w2) := ⟨Below.next HB.out D2.out⟩
        clear KK D0 D1 D2 Q HB t0 u0 t1 u1 t2 u2 t3 u3 t4 u4 t5 u5 t6 u6
        cases s
        · have HF : Hd (R = false) := ⟨HE.out⟩
          clear HE
          go_wp2_with fail
          go_ret
          exact ⟨by rw [HF.out]; rfl, HB2.out⟩
        · have HF : Hd (ascB ltRow (ls.drop (j + 1)) = R) := ⟨by rw [HE.out, Bool.true_and]⟩
          clear HE
          go_wp2_with fail
          go_roundw
          case rel => exact ⟨j + 1, by go_num, by omega, HF, HB2⟩
          case measure => simp [intOf]; omega
    · have HF : Hd (R = true) := ⟨by rw [← HK.out]; exact ascB_end (by have := HN.out.1; omega)⟩
      have hge : ¬ ((j + 1 : Nat) : Int) < (len : Int) := by omega
      go_wp2_with fail
      go_ret
      exact ⟨by rw [HF.out]; rfl, HB.out⟩

end Go.Proofs.YtlididoalekeoaaGreatDoor
