/- The program: RecOk. -/
import Derived.Test.YtlididoalekeoaaGreatDoorRecS
import Derived.Test.YtlididoalekeoaaGreatDoorRowI
namespace Go.Proofs.YtlididoalekeoaaGreatDoor
set_option maxRecDepth 4000
open Go.RowKit

def askB (r : RecD) : Bool := if r.who = 0 then (r.seq == 0) && (r.code == 0) else inB r.who 1 9 && inB r.seq 0 65535 && inB r.code 0 6
theorem recOk_ask (r : RecD) : recOk r = (askB r && (if r.kind = 1 then (rOk r.r && r.key.toList.isEmpty && (r.n == 0)) else if r.kind = 2 then (noRowB r.r && nameOkB r.key && (r.n == 0)) else if r.kind = 3 then (noRowB r.r && r.key.toList.isEmpty && inB r.n 0 7) else if r.kind = 4 then (noRowB r.r && r.key.toList.isEmpty && (r.n == 0) && (r.who != 0)) else false)) := by
  obtain ⟨k, r, key, n, who, seq, code⟩ := r
  simp only [recOk, whoB, askB]
  by_cases e1 : k = 1
  · subst e1
    rw [show inB 1 1 4 = true from rfl]
    by_cases h0 : who = 0
    · subst h0; cases rOk r <;> cases key.toList.isEmpty <;> simp <;> cases n == 0 <;> cases seq == 0 <;> cases code == 0 <;> rfl
    · cases rOk r <;> cases key.toList.isEmpty <;> simp [h0] <;> cases n == 0 <;> simp
  · by_cases e2 : k = 2
    · subst e2
      rw [show inB 2 1 4 = true from rfl]
      by_cases h0 : who = 0
      · subst h0; cases noRowB r <;> cases nameOkB key <;> simp <;> cases n == 0 <;> cases seq == 0 <;> cases code == 0 <;> rfl
      · cases noRowB r <;> cases nameOkB key <;> simp [h0] <;> cases n == 0 <;> simp
    · by_cases e3 : k = 3
      · subst e3
        rw [show inB 3 1 4 = true from rfl]
        by_cases h0 : who = 0
        · subst h0; cases noRowB r <;> cases key.toList.isEmpty <;> simp <;> cases inB n 0 7 <;> cases seq == 0 <;> cases code == 0 <;> rfl
        · cases noRowB r <;> cases key.toList.isEmpty <;> simp [h0] <;> cases inB n 0 7 <;> simp
      · by_cases e4 : k = 4
        · subst e4
          rw [show inB 4 1 4 = true from rfl]
          by_cases h0 : who = 0
          · subst h0; simp
          · cases noRowB r <;> cases key.toList.isEmpty <;> simp [h0] <;> cases n == 0 <;> first | (simp; done) | simp [h0]
        · have : inB k 1 4 = false := decide_eq_false (by omega)
          simp [this, e1, e2, e3, e4]

theorem isWord_any (x : Int) (w : World) : Calls Tryz.prog 74 #[.int .i64 x] w fun e w' => e = .returned (.bool (inB x 0 65535)) ∧ w' = w := by
  by_cases h1 : 0 ≤ x
  · by_cases h2 : x ≤ 65535
    · go_enter Tryz.func74, Tryz.ntmps74
      go_wp2
      go_ret
      exact ⟨ret_bool (by simp [inB, h1, h2]), rfl⟩
    · go_enter Tryz.func74, Tryz.ntmps74
      go_wp2
      go_ret
      exact ⟨ret_bool (by simp [inB, h1]; omega), rfl⟩
  · go_enter Tryz.func74, Tryz.ntmps74
    go_wp2
    go_ret
    exact ⟨ret_bool (by simp [inB]; omega), rfl⟩

theorem implRowOk_rd (cs : List Value) (a : RowD) (w : World) (h : RcRow w cs a) (hw : wtRow a ≤ 1048576) (T : Hd (AllAt w)) :
    Calls Tryz.prog 63 #[.agg cs.toArray] w fun e w' => e = .returned (.bool (rOk a)) ∧ Below w.heap.size w w' := by
  obtain ⟨l0, l1, l2, l3, l4, l5, l6⟩ := a
  simp only [RcRow] at h
  obtain ⟨x2, m2, d2, x4, m4, d4, rfl, _, r1, r3⟩ := h
  obtain ⟨_, _, _, q1, q2⟩ := r1
  simp only [List.cons.injEq, Value.slice.injEq, and_true, true_and] at q1
  obtain ⟨rfl, rfl, rfl⟩ := q1
  obtain ⟨_, _, _, q3, q4⟩ := r3
  simp only [List.cons.injEq, Value.slice.injEq, and_true, true_and] at q3
  obtain ⟨rfl, rfl, rfl⟩ := q3
  have c2 := (rdC_parts q2).2
  have c4 := (rdC_parts q4).2
  have h2 := c2.size
  have h4 := c4.size
  dsimp only at h2 h4
  simp only [wtRow, wtCell, wtB] at hw
  exact implRowOk_any l0 l1 x2 m2 d2 l3 x4 m4 d4 l5 l6 l2 l4 w (by omega) c2 c4 (by omega) (by omega) T

set_option maxHeartbeats 2000000 in
theorem implNoRow_rd (cs : List Value) (a : RowD) (w : World) (h : RcRow w cs a) :
    Calls Tryz.prog 64 #[.agg cs.toArray] w fun e w' => e = .returned (.bool (noRowB a)) ∧ Below w.heap.size w w' := by
  obtain ⟨l0, l1, l2, l3, l4, l5, l6⟩ := a
  simp only [RcRow] at h
  obtain ⟨x2, m2, d2, x4, m4, d4, rfl, _, r1, r3⟩ := h
  obtain ⟨_, _, _, q1, q2⟩ := r1
  simp only [List.cons.injEq, Value.slice.injEq, and_true, true_and] at q1
  obtain ⟨rfl, rfl, rfl⟩ := q1
  obtain ⟨_, _, _, q3, q4⟩ := r3
  simp only [List.cons.injEq, Value.slice.injEq, and_true, true_and] at q3
  obtain ⟨rfl, rfl, rfl⟩ := q3
  have C2 : Hd (CellAt w x2 m2 d2 l2) := ⟨(rdC_parts q2).2⟩
  have C4 : Hd (CellAt w x4 m4 d4 l4) := ⟨(rdC_parts q4).2⟩
  clear q2 q4
  have F0 : Hd (Bx 67 w #[.string l0, .int .i64 l1, .slice x2 m2 d2, .int .i64 l3, .slice x4 m4 d4, .int .i64 l5, .bool l6] (w.alloc (.cells #[.string l0, .int .i64 l1, .slice x2 m2 d2, .int .i64 l3, .slice x4 m4 d4, .int .i64 l5, .bool l6] 67))) := ⟨Bx.new _ w _⟩
  obtain ⟨ke, hke⟩ : ∃ x, l0.toList.isEmpty = x := ⟨_, rfl⟩
  obtain ⟨z1, hz1⟩ : ∃ x, noneB l1 m2 = x := ⟨_, rfl⟩
  have HZ1 : Hd (noneB l1 m2 = z1) := ⟨hz1⟩
  obtain ⟨z2, hz2⟩ : ∃ x, noneB l3 m4 = x := ⟨_, rfl⟩
  have HZ2 : Hd (noneB l3 m4 = z2) := ⟨hz2⟩
  obtain ⟨hz, hhz⟩ : ∃ x, (l5 == 0) = x := ⟨_, rfl⟩
  have HE : noRowB ⟨l0, l1, l2, l3, l4, l5, l6⟩ = (ke && z1 && z2 && hz && !l6) := by
    simp only [noRowB, C2.out.size, C4.out.size, hke, hz1, hz2, hhz]
  rewrite [HE]
  clear HE hz1 hz2
  go_enter Tryz.func64, Tryz.ntmps64
  cases ke with
  | false =>
    go_wp2_with fail
    go_ret
    exact ⟨rfl, F0.out.bel⟩
  | true =>
    go_wp2_with fail
    refine (noCell_any l1 x2 m2 d2 l2 _ (C2.out.below F0.out.bel)).mono ?_
    rintro e v1 ⟨rfl, hB⟩
    rewrite [HZ1.out]
    have F1 : Hd (Bx 67 w #[.string l0, .int .i64 l1, .slice x2 m2 d2, .int .i64 l3, .slice x4 m4 d4, .int .i64 l5, .bool l6] v1) := ⟨F0.out.below hB⟩
    clear hB F0
    have cc3 := F1.out.cell 3 rfl
    have cc4 := F1.out.cell 4 rfl
    have cc5 := F1.out.cell 5 rfl
    have cc6 := F1.out.cell 6 rfl
    cases z1 with
    | false =>
      go_wp2_with fail
      go_ret
      exact ⟨rfl, F1.out.bel⟩
    | true =>
      go_wp2_with fail
      refine (noCell_any l3 x4 m4 d4 l4 _ (C4.out.below F1.out.bel)).mono ?_
      rintro e v2 ⟨rfl, hB⟩
      rewrite [HZ2.out]
      have F2 : Hd (Bx 67 w #[.string l0, .int .i64 l1, .slice x2 m2 d2, .int .i64 l3, .slice x4 m4 d4, .int .i64 l5, .bool l6] v2) := ⟨F1.out.below hB⟩
      clear hB F1
      clear cc3 cc4 cc5 cc6
      have cc5 := F2.out.cell 5 rfl
      have cc6 := F2.out.cell 6 rfl
      cases z2 with
      | false =>
        go_wp2_with fail
        go_ret
        exact ⟨rfl, F2.out.bel⟩
      | true =>
        cases hz with
        | false =>
          go_wp2_with fail
          go_ret
          exact ⟨rfl, F2.out.bel⟩
        | true =>
          cases l6 with
          | false =>
            go_wp2_with fail
            go_ret
            exact ⟨rfl, F2.out.bel⟩
          | true =>
            go_wp2_with fail
            go_ret
            exact ⟨rfl, F2.out.bel⟩

set_option maxHeartbeats 2000000 in
theorem implAsked_rd (cs : List Value) (a : RecD) (w : World) (h : RcRec w cs a) :
    Calls Tryz.prog 62 #[.agg cs.toArray] w fun e w' => e = .returned (.bool (askB a)) ∧ Below w.heap.size w w' := by
  obtain ⟨l0, ⟨l1, l2, l3, l4, l5, l6, l7⟩, l8, l9, l10, l11, l12⟩ := a
  simp only [RcRec] at h
  obtain ⟨x3, m3, d3, x5, m5, d5, rfl, _, _⟩ := h
  have F0 : Hd (Bx 83 w #[.int .i64 l0, .string l1, .int .i64 l2, .slice x3 m3 d3, .int .i64 l4, .slice x5 m5 d5, .int .i64 l6, .bool l7, .string l8, .int .i64 l9, .int .i64 l10, .int .i64 l11, .int .i64 l12] (w.alloc (.cells #[.int .i64 l0, .string l1, .int .i64 l2, .slice x3 m3 d3, .int .i64 l4, .slice x5 m5 d5, .int .i64 l6, .bool l7, .string l8, .int .i64 l9, .int .i64 l10, .int .i64 l11, .int .i64 l12] 83))) := ⟨Bx.new _ w _⟩
  unfold askB
  dsimp only
  by_cases h0 : l10 = 0
  · subst h0
    obtain ⟨s0, hs0⟩ : ∃ x, (l11 == 0) = x := ⟨_, rfl⟩
    obtain ⟨c0, hc0⟩ : ∃ x, (l12 == 0) = x := ⟨_, rfl⟩
    rw [if_pos rfl, hs0, hc0]
    go_enter Tryz.func62, Tryz.ntmps62
    cases s0 with
    | false =>
      go_wp2_with fail
      go_ret
      exact ⟨rfl, F0.out.bel⟩
    | true =>
      go_wp2_with fail
      go_ret
      exact ⟨rfl, F0.out.bel⟩
  · have h0b : (l10 == 0) = false := by simpa using h0
    obtain ⟨g1, hg1⟩ : ∃ x, decide (0 < l10) = x := ⟨_, rfl⟩
    obtain ⟨g2, hg2⟩ : ∃ x, decide (l10 ≤ 9) = x := ⟨_, rfl⟩
    obtain ⟨g4, hg4⟩ : ∃ x, decide (0 ≤ l12) = x := ⟨_, rfl⟩
    obtain ⟨g5, hg5⟩ : ∃ x, decide (l12 ≤ 6) = x := ⟨_, rfl⟩
    obtain ⟨i2, hi2⟩ : ∃ x, inB l11 0 65535 = x := ⟨_, rfl⟩
    have HI2 : Hd (inB l11 0 65535 = i2) := ⟨hi2⟩
    have HE : (inB l10 1 9 && inB l11 0 65535 && inB l12 0 6) = (g1 && g2 && i2 && g4 && g5) := by
      rw [show inB l10 1 9 = (g1 && g2) by rw [← hg1, ← hg2, ← Bool.decide_and]; exact decide_eq_decide.2 (by omega), hi2, show inB l12 0 6 = (g4 && g5) by rw [← hg4, ← hg5, ← Bool.decide_and]; exact decide_eq_decide.2 (by omega)]
      cases g1 <;> cases g2 <;> cases i2 <;> cases g4 <;> cases g5 <;> rfl
    rw [if_neg h0, HE]
    clear hi2 HE
    have kg1 : decide (l10 > 0) = g1 := hg1
    have kg4 : decide (l12 ≥ 0) = g4 := hg4
    go_enter Tryz.func62, Tryz.ntmps62
    cases g1 with
    | false =>
      go_wp2_with fail
      go_ret
      exact ⟨rfl, F0.out.bel⟩
    | true =>
      cases g2 with
      | false =>
        go_wp2_with fail
        go_ret
        exact ⟨rfl, F0.out.bel⟩
      | true =>
        go_wp2_with fail
        refine (isWord_any l11 _).mono ?_
        rintro e v1 ⟨rfl, hB⟩
        replace hB := same_below hB
        rewrite [HI2.out]
        have F1 : Hd (Bx 83 w #[.int .i64 l0, .string l1, .int .i64 l2, .slice x3 m3 d3, .int .i64 l4, .slice x5 m5 d5, .int .i64 l6, .bool l7, .string l8, .int .i64 l9, .int .i64 l10, .int .i64 l11, .int .i64 l12] v1) := ⟨F0.out.below hB⟩
        clear hB F0
        have cc12 := F1.out.cell 12 rfl
        cases i2 with
        | false =>
          go_wp2_with fail
          go_ret
          exact ⟨rfl, F1.out.bel⟩
        | true =>
          cases g4 with
          | false =>
            go_wp2_with fail
            go_ret
            exact ⟨rfl, F1.out.bel⟩
          | true =>
            go_wp2_with fail
            go_ret
            exact ⟨rfl, F1.out.bel⟩

set_option maxHeartbeats 8000000 in
theorem implRecOk_rd (cs : List Value) (a : RecD) (w : World) (h : RcRec w cs a) (hw : wtRec a ≤ 1048576) (T : Hd (AllAt w)) :
    Calls Tryz.prog 40 #[.agg cs.toArray] w fun e w' => e = .returned (.bool (recOk a)) ∧ Below w.heap.size w w' := by
  have HA : Hd (RcRec w cs a) := ⟨h⟩
  obtain ⟨l0, ⟨l1, l2, l3, l4, l5, l6, l7⟩, l8, l9, l10, l11, l12⟩ := a
  simp only [RcRec] at h
  obtain ⟨x3, m3, d3, x5, m5, d5, rfl, _, r1⟩ := h
  unfold wtRec at hw
  dsimp only at hw
  have HW : Hd (wtRow ⟨l1, l2, l3, l4, l5, l6, l7⟩ ≤ 1048576 ∧ l8.size ≤ 1048576) := ⟨by omega, by omega⟩
  have HR : Hd (RcRow w [.string l1, .int .i64 l2, .slice x3 m3 d3, .int .i64 l4, .slice x5 m5 d5, .int .i64 l6, .bool l7] ⟨l1, l2, l3, l4, l5, l6, l7⟩) := ⟨r1⟩
  clear hw r1
  have F0 : Hd (Bx 83 w #[.int .i64 l0, .string l1, .int .i64 l2, .slice x3 m3 d3, .int .i64 l4, .slice x5 m5 d5, .int .i64 l6, .bool l7, .string l8, .int .i64 l9, .int .i64 l10, .int .i64 l11, .int .i64 l12] (w.alloc (.cells #[.int .i64 l0, .string l1, .int .i64 l2, .slice x3 m3 d3, .int .i64 l4, .slice x5 m5 d5, .int .i64 l6, .bool l7, .string l8, .int .i64 l9, .int .i64 l10, .int .i64 l11, .int .i64 l12] 83))) := ⟨Bx.new _ w _⟩
  obtain ⟨nr, hnr⟩ : ∃ x, noRowB ⟨l1, l2, l3, l4, l5, l6, l7⟩ = x := ⟨_, rfl⟩
  have HNR : Hd (noRowB ⟨l1, l2, l3, l4, l5, l6, l7⟩ = nr) := ⟨hnr⟩
  obtain ⟨ro, hro⟩ : ∃ x, rOk ⟨l1, l2, l3, l4, l5, l6, l7⟩ = x := ⟨_, rfl⟩
  have HRO : Hd (rOk ⟨l1, l2, l3, l4, l5, l6, l7⟩ = ro) := ⟨hro⟩
  obtain ⟨nk, hnk⟩ : ∃ x, nameOkB l8 = x := ⟨_, rfl⟩
  have HNK : Hd (nameOkB l8 = nk) := ⟨hnk⟩
  obtain ⟨ab, hab⟩ : ∃ x, askB ⟨l0, ⟨l1, l2, l3, l4, l5, l6, l7⟩, l8, l9, l10, l11, l12⟩ = x := ⟨_, rfl⟩
  have HAB : Hd (askB ⟨l0, ⟨l1, l2, l3, l4, l5, l6, l7⟩, l8, l9, l10, l11, l12⟩ = ab) := ⟨hab⟩
  obtain ⟨ke, hke⟩ : ∃ x, l8.toList.isEmpty = x := ⟨_, rfl⟩
  obtain ⟨nz, hnz⟩ : ∃ x, (l9 == 0) = x := ⟨_, rfl⟩
  obtain ⟨g0, hg0⟩ : ∃ x, decide (0 ≤ l9) = x := ⟨_, rfl⟩
  obtain ⟨g7, hg7⟩ : ∃ x, decide (l9 ≤ 7) = x := ⟨_, rfl⟩
  obtain ⟨wz, hwz⟩ : ∃ x, (l10 != 0) = x := ⟨_, rfl⟩
  have HE : recOk ⟨l0, ⟨l1, l2, l3, l4, l5, l6, l7⟩, l8, l9, l10, l11, l12⟩ = (ab && (if l0 = 1 then (ro && ke && nz) else if l0 = 2 then (nr && nk && nz) else if l0 = 3 then (nr && ke && g0 && g7) else if l0 = 4 then (nr && ke && nz && wz) else false)) := by
    rw [recOk_ask]
    dsimp only
    rw [hab, hro, hnr, hnk, hke, hnz, hwz, show inB l9 0 7 = (g0 && g7) by rw [← hg0, ← hg7, ← Bool.decide_and]; rfl]
    cases g0 <;> cases g7 <;> simp
  rewrite [HE]
  have kg0 : decide (l9 ≥ 0) = g0 := hg0
  clear HE hnr hro hnk hab
  by_cases e1 : l0 = 1
  · subst e1
    rw [if_pos rfl]
    go_enter Tryz.func40, Tryz.ntmps40
    go_wp2_with fail
    refine (implAsked_rd _ _ _ (rcRec_ok.below HA.out F0.out.bel)).mono ?_
    rintro e v1 ⟨rfl, hB⟩
    rewrite [HAB.out]
    have F1 : Hd (Bx 83 w #[.int .i64 1, .string l1, .int .i64 l2, .slice x3 m3 d3, .int .i64 l4, .slice x5 m5 d5, .int .i64 l6, .bool l7, .string l8, .int .i64 l9, .int .i64 l10, .int .i64 l11, .int .i64 l12] v1) := ⟨F0.out.below hB⟩
    clear hB F0
    have cc0 := F1.out.cell 0 rfl
    have cc1 := F1.out.cell 1 rfl
    have cc2 := F1.out.cell 2 rfl
    have cc3 := F1.out.cell 3 rfl
    have cc4 := F1.out.cell 4 rfl
    have cc5 := F1.out.cell 5 rfl
    have cc6 := F1.out.cell 6 rfl
    have cc7 := F1.out.cell 7 rfl
    have cc8 := F1.out.cell 8 rfl
    have cc9 := F1.out.cell 9 rfl
    have cc10 := F1.out.cell 10 rfl
    have cc11 := F1.out.cell 11 rfl
    have cc12 := F1.out.cell 12 rfl
    cases ab with
    | false =>
      go_wp2_with fail
      go_ret
      exact ⟨rfl, F1.out.bel⟩
    | true =>
      go_wp2_with fail
      refine (implRowOk_rd _ _ _ (rcRow_ok.below HR.out F1.out.bel) HW.out.1 ⟨T.out.below F1.out.bel⟩).mono ?_
      rintro e v2 ⟨rfl, hB⟩
      rewrite [HRO.out]
      have F2 : Hd (Bx 83 w #[.int .i64 1, .string l1, .int .i64 l2, .slice x3 m3 d3, .int .i64 l4, .slice x5 m5 d5, .int .i64 l6, .bool l7, .string l8, .int .i64 l9, .int .i64 l10, .int .i64 l11, .int .i64 l12] v2) := ⟨F1.out.below hB⟩
      clear hB F1
      clear cc0 cc1 cc2 cc3 cc4 cc5 cc6 cc7 cc8 cc9 cc10 cc11 cc12
      have cc0 := F2.out.cell 0 rfl
      have cc1 := F2.out.cell 1 rfl
      have cc2 := F2.out.cell 2 rfl
      have cc3 := F2.out.cell 3 rfl
      have cc4 := F2.out.cell 4 rfl
      have cc5 := F2.out.cell 5 rfl
      have cc6 := F2.out.cell 6 rfl
      have cc7 := F2.out.cell 7 rfl
      have cc8 := F2.out.cell 8 rfl
      have cc9 := F2.out.cell 9 rfl
      have cc10 := F2.out.cell 10 rfl
      have cc11 := F2.out.cell 11 rfl
      have cc12 := F2.out.cell 12 rfl
      cases ro with
      | false =>
        go_wp2_with fail
        go_ret
        exact ⟨rfl, F2.out.bel⟩
      | true =>
        cases ke with
        | false =>
          go_wp2_with fail
          go_ret
          exact ⟨rfl, F2.out.bel⟩
        | true =>
          go_wp2_with fail
          go_ret
          exact ⟨rfl, F2.out.bel⟩
  by_cases e2 : l0 = 2
  · subst e2
    rw [if_neg (by decide), if_pos rfl]
    go_enter Tryz.func40, Tryz.ntmps40
    go_wp2_with fail
    refine (implAsked_rd _ _ _ (rcRec_ok.below HA.out F0.out.bel)).mono ?_
    rintro e v1 ⟨rfl, hB⟩
    rewrite [HAB.out]
    have F1 : Hd (Bx 83 w #[.int .i64 2, .string l1, .int .i64 l2, .slice x3 m3 d3, .int .i64 l4, .slice x5 m5 d5, .int .i64 l6, .bool l7, .string l8, .int .i64 l9, .int .i64 l10, .int .i64 l11, .int .i64 l12] v1) := ⟨F0.out.below hB⟩
    clear hB F0
    have cc0 := F1.out.cell 0 rfl
    have cc1 := F1.out.cell 1 rfl
    have cc2 := F1.out.cell 2 rfl
    have cc3 := F1.out.cell 3 rfl
    have cc4 := F1.out.cell 4 rfl
    have cc5 := F1.out.cell 5 rfl
    have cc6 := F1.out.cell 6 rfl
    have cc7 := F1.out.cell 7 rfl
    have cc8 := F1.out.cell 8 rfl
    have cc9 := F1.out.cell 9 rfl
    have cc10 := F1.out.cell 10 rfl
    have cc11 := F1.out.cell 11 rfl
    have cc12 := F1.out.cell 12 rfl
    cases ab with
    | false =>
      go_wp2_with fail
      go_ret
      exact ⟨rfl, F1.out.bel⟩
    | true =>
      go_wp2_with fail
      refine (implNoRow_rd _ _ _ (rcRow_ok.below HR.out F1.out.bel)).mono ?_
      rintro e v2 ⟨rfl, hB⟩
      rewrite [HNR.out]
      have F2 : Hd (Bx 83 w #[.int .i64 2, .string l1, .int .i64 l2, .slice x3 m3 d3, .int .i64 l4, .slice x5 m5 d5, .int .i64 l6, .bool l7, .string l8, .int .i64 l9, .int .i64 l10, .int .i64 l11, .int .i64 l12] v2) := ⟨F1.out.below hB⟩
      clear hB F1
      clear cc0 cc1 cc2 cc3 cc4 cc5 cc6 cc7 cc8 cc9 cc10 cc11 cc12
      have cc0 := F2.out.cell 0 rfl
      have cc1 := F2.out.cell 1 rfl
      have cc2 := F2.out.cell 2 rfl
      have cc3 := F2.out.cell 3 rfl
      have cc4 := F2.out.cell 4 rfl
      have cc5 := F2.out.cell 5 rfl
      have cc6 := F2.out.cell 6 rfl
      have cc7 := F2.out.cell 7 rfl
      have cc8 := F2.out.cell 8 rfl
      have cc9 := F2.out.cell 9 rfl
      have cc10 := F2.out.cell 10 rfl
      have cc11 := F2.out.cell 11 rfl
      have cc12 := F2.out.cell 12 rfl
      cases nr with
      | false =>
        go_wp2_with fail
        go_ret
        exact ⟨rfl, F2.out.bel⟩
      | true =>
        go_wp2_with fail
        refine (implNameOk_any l8 _ HW.out.2).mono ?_
        rintro e v3 ⟨rfl, hB⟩
        replace hB := same_below hB
        rewrite [HNK.out]
        have F3 : Hd (Bx 83 w #[.int .i64 2, .string l1, .int .i64 l2, .slice x3 m3 d3, .int .i64 l4, .slice x5 m5 d5, .int .i64 l6, .bool l7, .string l8, .int .i64 l9, .int .i64 l10, .int .i64 l11, .int .i64 l12] v3) := ⟨F2.out.below hB⟩
        clear hB F2
        clear cc0 cc1 cc2 cc3 cc4 cc5 cc6 cc7 cc8 cc9 cc10 cc11 cc12
        have cc0 := F3.out.cell 0 rfl
        have cc1 := F3.out.cell 1 rfl
        have cc2 := F3.out.cell 2 rfl
        have cc3 := F3.out.cell 3 rfl
        have cc4 := F3.out.cell 4 rfl
        have cc5 := F3.out.cell 5 rfl
        have cc6 := F3.out.cell 6 rfl
        have cc7 := F3.out.cell 7 rfl
        have cc8 := F3.out.cell 8 rfl
        have cc9 := F3.out.cell 9 rfl
        have cc10 := F3.out.cell 10 rfl
        have cc11 := F3.out.cell 11 rfl
        have cc12 := F3.out.cell 12 rfl
        cases nk with
        | false =>
          go_wp2_with fail
          go_ret
          exact ⟨rfl, F3.out.bel⟩
        | true =>
          go_wp2_with fail
          go_ret
          exact ⟨rfl, F3.out.bel⟩
  by_cases e3 : l0 = 3
  · subst e3
    rw [if_neg (by decide), if_neg (by decide), if_pos rfl]
    go_enter Tryz.func40, Tryz.ntmps40
    go_wp2_with fail
    refine (implAsked_rd _ _ _ (rcRec_ok.below HA.out F0.out.bel)).mono ?_
    rintro e v1 ⟨rfl, hB⟩
    rewrite [HAB.out]
    have F1 : Hd (Bx 83 w #[.int .i64 3, .string l1, .int .i64 l2, .slice x3 m3 d3, .int .i64 l4, .slice x5 m5 d5, .int .i64 l6, .bool l7, .string l8, .int .i64 l9, .int .i64 l10, .int .i64 l11, .int .i64 l12] v1) := ⟨F0.out.below hB⟩
    clear hB F0
    have cc0 := F1.out.cell 0 rfl
    have cc1 := F1.out.cell 1 rfl
    have cc2 := F1.out.cell 2 rfl
    have cc3 := F1.out.cell 3 rfl
    have cc4 := F1.out.cell 4 rfl
    have cc5 := F1.out.cell 5 rfl
    have cc6 := F1.out.cell 6 rfl
    have cc7 := F1.out.cell 7 rfl
    have cc8 := F1.out.cell 8 rfl
    have cc9 := F1.out.cell 9 rfl
    have cc10 := F1.out.cell 10 rfl
    have cc11 := F1.out.cell 11 rfl
    have cc12 := F1.out.cell 12 rfl
    cases ab with
    | false =>
      go_wp2_with fail
      go_ret
      exact ⟨rfl, F1.out.bel⟩
    | true =>
      go_wp2_with fail
      refine (implNoRow_rd _ _ _ (rcRow_ok.below HR.out F1.out.bel)).mono ?_
      rintro e v2 ⟨rfl, hB⟩
      rewrite [HNR.out]
      have F2 : Hd (Bx 83 w #[.int .i64 3, .string l1, .int .i64 l2, .slice x3 m3 d3, .int .i64 l4, .slice x5 m5 d5, .int .i64 l6, .bool l7, .string l8, .int .i64 l9, .int .i64 l10, .int .i64 l11, .int .i64 l12] v2) := ⟨F1.out.below hB⟩
      clear hB F1
      clear cc0 cc1 cc2 cc3 cc4 cc5 cc6 cc7 cc8 cc9 cc10 cc11 cc12
      have cc0 := F2.out.cell 0 rfl
      have cc1 := F2.out.cell 1 rfl
      have cc2 := F2.out.cell 2 rfl
      have cc3 := F2.out.cell 3 rfl
      have cc4 := F2.out.cell 4 rfl
      have cc5 := F2.out.cell 5 rfl
      have cc6 := F2.out.cell 6 rfl
      have cc7 := F2.out.cell 7 rfl
      have cc8 := F2.out.cell 8 rfl
      have cc9 := F2.out.cell 9 rfl
      have cc10 := F2.out.cell 10 rfl
      have cc11 := F2.out.cell 11 rfl
      have cc12 := F2.out.cell 12 rfl
      cases nr with
      | false =>
        go_wp2_with fail
        go_ret
        exact ⟨rfl, F2.out.bel⟩
      | true =>
        cases ke with
        | false =>
          go_wp2_with fail
          go_ret
          exact ⟨rfl, F2.out.bel⟩
        | true =>
          cases g0 with
          | false =>
            go_wp2_with fail
            go_ret
            exact ⟨rfl, F2.out.bel⟩
          | true =>
            go_wp2_with fail
            go_ret
            exact ⟨rfl, F2.out.bel⟩
  by_cases e4 : l0 = 4
  · subst e4
    rw [if_neg (by decide), if_neg (by decide), if_neg (by decide), if_pos rfl]
    go_enter Tryz.func40, Tryz.ntmps40
    go_wp2_with fail
    refine (implAsked_rd _ _ _ (rcRec_ok.below HA.out F0.out.bel)).mono ?_
    rintro e v1 ⟨rfl, hB⟩
    rewrite [HAB.out]
    have F1 : Hd (Bx 83 w #[.int .i64 4, .string l1, .int .i64 l2, .slice x3 m3 d3, .int .i64 l4, .slice x5 m5 d5, .int .i64 l6, .bool l7, .string l8, .int .i64 l9, .int .i64 l10, .int .i64 l11, .int .i64 l12] v1) := ⟨F0.out.below hB⟩
    clear hB F0
    have cc0 := F1.out.cell 0 rfl
    have cc1 := F1.out.cell 1 rfl
    have cc2 := F1.out.cell 2 rfl
    have cc3 := F1.out.cell 3 rfl
    have cc4 := F1.out.cell 4 rfl
    have cc5 := F1.out.cell 5 rfl
    have cc6 := F1.out.cell 6 rfl
    have cc7 := F1.out.cell 7 rfl
    have cc8 := F1.out.cell 8 rfl
    have cc9 := F1.out.cell 9 rfl
    have cc10 := F1.out.cell 10 rfl
    have cc11 := F1.out.cell 11 rfl
    have cc12 := F1.out.cell 12 rfl
    cases ab with
    | false =>
      go_wp2_with fail
      go_ret
      exact ⟨rfl, F1.out.bel⟩
    | true =>
      go_wp2_with fail
      refine (implNoRow_rd _ _ _ (rcRow_ok.below HR.out F1.out.bel)).mono ?_
      rintro e v2 ⟨rfl, hB⟩
      rewrite [HNR.out]
      have F2 : Hd (Bx 83 w #[.int .i64 4, .string l1, .int .i64 l2, .slice x3 m3 d3, .int .i64 l4, .slice x5 m5 d5, .int .i64 l6, .bool l7, .string l8, .int .i64 l9, .int .i64 l10, .int .i64 l11, .int .i64 l12] v2) := ⟨F1.out.below hB⟩
      clear hB F1
      clear cc0 cc1 cc2 cc3 cc4 cc5 cc6 cc7 cc8 cc9 cc10 cc11 cc12
      have cc0 := F2.out.cell 0 rfl
      have cc1 := F2.out.cell 1 rfl
      have cc2 := F2.out.cell 2 rfl
      have cc3 := F2.out.cell 3 rfl
      have cc4 := F2.out.cell 4 rfl
      have cc5 := F2.out.cell 5 rfl
      have cc6 := F2.out.cell 6 rfl
      have cc7 := F2.out.cell 7 rfl
      have cc8 := F2.out.cell 8 rfl
      have cc9 := F2.out.cell 9 rfl
      have cc10 := F2.out.cell 10 rfl
      have cc11 := F2.out.cell 11 rfl
      have cc12 := F2.out.cell 12 rfl
      cases nr with
      | false =>
        go_wp2_with fail
        go_ret
        exact ⟨rfl, F2.out.bel⟩
      | true =>
        cases ke with
        | false =>
          go_wp2_with fail
          go_ret
          exact ⟨rfl, F2.out.bel⟩
        | true =>
          cases nz with
          | false =>
            go_wp2_with fail
            go_ret
            exact ⟨rfl, F2.out.bel⟩
          | true =>
            go_wp2_with fail
            go_ret
            exact ⟨rfl, F2.out.bel⟩
  have k1 : (l0 == 1) = false := by simpa using e1
  have k2 : (l0 == 2) = false := by simpa using e2
  have k3 : (l0 == 3) = false := by simpa using e3
  have k4 : (l0 == 4) = false := by simpa using e4
  rw [if_neg e1, if_neg e2, if_neg e3, if_neg e4]
  go_enter Tryz.func40, Tryz.ntmps40
  go_wp2_with fail
  refine (implAsked_rd _ _ _ (rcRec_ok.below HA.out F0.out.bel)).mono ?_
  rintro e v1 ⟨rfl, hB⟩
  rewrite [HAB.out]
  have F1 : Hd (Bx 83 w #[.int .i64 l0, .string l1, .int .i64 l2, .slice x3 m3 d3, .int .i64 l4, .slice x5 m5 d5, .int .i64 l6, .bool l7, .string l8, .int .i64 l9, .int .i64 l10, .int .i64 l11, .int .i64 l12] v1) := ⟨F0.out.below hB⟩
  clear hB F0
  have cc0 := F1.out.cell 0 rfl
  have cc1 := F1.out.cell 1 rfl
  have cc2 := F1.out.cell 2 rfl
  have cc3 := F1.out.cell 3 rfl
  have cc4 := F1.out.cell 4 rfl
  have cc5 := F1.out.cell 5 rfl
  have cc6 := F1.out.cell 6 rfl
  have cc7 := F1.out.cell 7 rfl
  have cc8 := F1.out.cell 8 rfl
  have cc9 := F1.out.cell 9 rfl
  have cc10 := F1.out.cell 10 rfl
  have cc11 := F1.out.cell 11 rfl
  have cc12 := F1.out.cell 12 rfl
  cases ab with
  | false =>
    go_wp2_with fail
    go_ret
    exact ⟨rfl, F1.out.bel⟩
  | true =>
    go_wp2_with fail
    go_ret
    exact ⟨rfl, F1.out.bel⟩

end Go.Proofs.YtlididoalekeoaaGreatDoor
