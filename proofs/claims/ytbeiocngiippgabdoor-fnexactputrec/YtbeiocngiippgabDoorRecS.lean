/- The specification: RecOk. -/
import Derived.Test.YtbeiocngiippgabDoorDpRec
import Derived.Test.YtbeiocngiippgabDoorRowA
namespace Go.Proofs.YtbeiocngiippgabDoor
set_option maxRecDepth 4000
open Go.RowKit

/-- A struct that was handed in, in its box. -/
structure Bx (T : TypeId) (w : World) (A : Array Value) (X : World) : Prop where
  bel : Below w.heap.size w X
  box : X.heap[w.heap.size]? = some (.cells A T (0, 0))
theorem Bx.new (T : TypeId) (w : World) (A : Array Value) : Bx T w A (w.alloc (.cells A T)) := ⟨below_lit w _, heap_alloc_new w _⟩
theorem Bx.below {T : TypeId} {w X Y : World} {A : Array Value} (h : Bx T w A X) (hb : Below X.heap.size X Y) : Bx T w A Y := ⟨Below.next h.bel hb, (hb.block _ (lt_of_block h.box)).trans h.box⟩
theorem Bx.cell {T : TypeId} {w X : World} {A : Array Value} (h : Bx T w A X) (i : Nat) {v : Value} (hv : A[i]? = some v) : X.cell? ⟨w.heap.size, i, none⟩ = some v := cellsA h.box i hv

theorem l1Word_any (x : Int) (w : World) : Calls Tryd.prog 45 #[.int .i64 x] w fun e w' => e = .returned (.bool (inB x 0 65535)) ∧ w' = w := by
  go_enter Tryd.func45, Tryd.ntmps45
  go_wp2_with fail
  refine (l1In_any x 0 65535 _).mono ?_
  rintro e w1 ⟨rfl, hw⟩
  subst hw
  go_wp2_with fail
  go_ret
  exact ⟨rfl, rfl⟩

theorem specRowOk_rd (cs : List Value) (a : RowD) (w : World) (h : RcRow w cs a) (hw : wtRow a ≤ 1048576) :
    Calls Tryd.prog 26 #[.agg cs.toArray] w fun e w' => e = .returned (.bool (rOk a)) ∧ Below w.heap.size w w' := by
  obtain ⟨l0, l1, l2, l3, l4, l5, l6⟩ := a
  simp only [RcRow] at h
  obtain ⟨x2, m2, d2, x4, m4, d4, rfl, _, r1, r3⟩ := h
  obtain ⟨_, _, _, q1, q2⟩ := r1
  simp only [List.cons.injEq, Value.slice.injEq, and_true, true_and] at q1
  obtain ⟨rfl, rfl, rfl⟩ := q1
  obtain ⟨_, _, _, q3, q4⟩ := r3
  simp only [List.cons.injEq, Value.slice.injEq, and_true, true_and] at q3
  obtain ⟨rfl, rfl, rfl⟩ := q3
  have c2 := (rdC_parts q2).2
  have c4 := (rdC_parts q4).2
  have h2 := c2.size
  have h4 := c4.size
  dsimp only at h2 h4
  simp only [wtRow, wtCell, wtB] at hw
  exact specRowOk_any l0 l1 x2 m2 d2 l3 x4 m4 d4 l5 l6 l2 l4 w (by omega) c2 c4 (by omega) (by omega)

set_option maxHeartbeats 2000000 in
theorem specNoRow_rd (cs : List Value) (a : RowD) (w : World) (h : RcRow w cs a) :
    Calls Tryd.prog 72 #[.agg cs.toArray] w fun e w' => e = .returned (.bool (noRowB a)) ∧ Below w.heap.size w w' := by
  obtain ⟨l0, l1, l2, l3, l4, l5, l6⟩ := a
  simp only [RcRow] at h
  obtain ⟨x2, m2, d2, x4, m4, d4, rfl, _, r1, r3⟩ := h
  obtain ⟨_, _, _, q1, q2⟩ := r1
  simp only [List.cons.injEq, Value.slice.injEq, and_true, true_and] at q1
  obtain ⟨rfl, rfl, rfl⟩ := q1
  obtain ⟨_, _, _, q3, q4⟩ := r3
  simp only [List.cons.injEq, Value.slice.injEq, and_true, true_and] at q3
  obtain ⟨rfl, rfl, rfl⟩ := q3
  have C2 : Hd (CellAt w x2 m2 d2 l2) := ⟨(rdC_parts q2).2⟩
  have C4 : Hd (CellAt w x4 m4 d4 l4) := ⟨(rdC_parts q4).2⟩
  clear q2 q4
  have F0 : Hd (Bx 32 w #[.string l0, .int .i64 l1, .slice x2 m2 d2, .int .i64 l3, .slice x4 m4 d4, .int .i64 l5, .bool l6] (w.alloc (.cells #[.string l0, .int .i64 l1, .slice x2 m2 d2, .int .i64 l3, .slice x4 m4 d4, .int .i64 l5, .bool l6] 32))) := ⟨Bx.new _ w _⟩
  obtain ⟨ke, hke⟩ : ∃ x, l0.toList.isEmpty = x := ⟨_, rfl⟩
  obtain ⟨z1, hz1⟩ : ∃ x, noneB l1 m2 = x := ⟨_, rfl⟩
  have HZ1 : Hd (noneB l1 m2 = z1) := ⟨hz1⟩
  obtain ⟨z2, hz2⟩ : ∃ x, noneB l3 m4 = x := ⟨_, rfl⟩
  have HZ2 : Hd (noneB l3 m4 = z2) := ⟨hz2⟩
  obtain ⟨hz, hhz⟩ : ∃ x, (l5 == 0) = x := ⟨_, rfl⟩
  have HE : noRowB ⟨l0, l1, l2, l3, l4, l5, l6⟩ = (ke && z1 && z2 && hz && !l6) := by
    simp only [noRowB, C2.out.size, C4.out.size, hke, hz1, hz2, hhz]
  rewrite [HE]
  clear HE hz1 hz2
  go_enter Tryd.func72, Tryd.ntmps72
  cases ke with
  | false =>
    go_wp2_with fail
    go_ret
    exact ⟨rfl, F0.out.bel⟩
  | true =>
    go_wp2_with fail
    refine (l9None_any l1 x2 m2 d2 _).mono ?_
    rintro e v1 ⟨rfl, hB⟩
    rewrite [HZ1.out]
    have F1 : Hd (Bx 32 w #[.string l0, .int .i64 l1, .slice x2 m2 d2, .int .i64 l3, .slice x4 m4 d4, .int .i64 l5, .bool l6] v1) := ⟨F0.out.below hB⟩
    clear hB F0
    have cc3 := F1.out.cell 3 rfl
    have cc4 := F1.out.cell 4 rfl
    have cc5 := F1.out.cell 5 rfl
    have cc6 := F1.out.cell 6 rfl
    cases z1 with
    | false =>
      go_wp2_with fail
      go_ret
      exact ⟨rfl, F1.out.bel⟩
    | true =>
      go_wp2_with fail
      refine (l9None_any l3 x4 m4 d4 _).mono ?_
      rintro e v2 ⟨rfl, hB⟩
      rewrite [HZ2.out]
      have F2 : Hd (Bx 32 w #[.string l0, .int .i64 l1, .slice x2 m2 d2, .int .i64 l3, .slice x4 m4 d4, .int .i64 l5, .bool l6] v2) := ⟨F1.out.below hB⟩
      clear hB F1
      clear cc3 cc4 cc5 cc6
      have cc5 := F2.out.cell 5 rfl
      have cc6 := F2.out.cell 6 rfl
      cases z2 with
      | false =>
        go_wp2_with fail
        go_ret
        exact ⟨rfl, F2.out.bel⟩
      | true =>
        cases hz with
        | false =>
          go_wp2_with fail
          go_ret
          exact ⟨rfl, F2.out.bel⟩
        | true =>
          cases l6 with
          | false =>
            go_wp2_with fail
            go_ret
            exact ⟨rfl, F2.out.bel⟩
          | true =>
            go_wp2_with fail
            go_ret
            exact ⟨rfl, F2.out.bel⟩

set_option maxHeartbeats 2000000 in
theorem specWho_rd (cs : List Value) (a : RecD) (w : World) (h : RcRec w cs a) :
    Calls Tryd.prog 73 #[.agg cs.toArray] w fun e w' => e = .returned (.bool (whoB a)) ∧ Below w.heap.size w w' := by
  obtain ⟨l0, ⟨l1, l2, l3, l4, l5, l6, l7⟩, l8, l9, l10, l11, l12⟩ := a
  simp only [RcRec] at h
  obtain ⟨x3, m3, d3, x5, m5, d5, rfl, _, _⟩ := h
  have F0 : Hd (Bx 47 w #[.int .i64 l0, .string l1, .int .i64 l2, .slice x3 m3 d3, .int .i64 l4, .slice x5 m5 d5, .int .i64 l6, .bool l7, .string l8, .int .i64 l9, .int .i64 l10, .int .i64 l11, .int .i64 l12] (w.alloc (.cells #[.int .i64 l0, .string l1, .int .i64 l2, .slice x3 m3 d3, .int .i64 l4, .slice x5 m5 d5, .int .i64 l6, .bool l7, .string l8, .int .i64 l9, .int .i64 l10, .int .i64 l11, .int .i64 l12] 47))) := ⟨Bx.new _ w _⟩
  unfold whoB
  dsimp only
  by_cases h0 : l10 = 0
  · subst h0
    obtain ⟨s0, hs0⟩ : ∃ x, (l11 == 0) = x := ⟨_, rfl⟩
    obtain ⟨c0, hc0⟩ : ∃ x, (l12 == 0) = x := ⟨_, rfl⟩
    obtain ⟨k0, hk0⟩ : ∃ x, (l0 != 4) = x := ⟨_, rfl⟩
    rw [if_pos rfl, hs0, hc0, hk0]
    go_enter Tryd.func73, Tryd.ntmps73
    cases s0 with
    | false =>
      go_wp2_with fail
      go_ret
      exact ⟨rfl, F0.out.bel⟩
    | true =>
      cases c0 with
      | false =>
        go_wp2_with fail
        go_ret
        exact ⟨rfl, F0.out.bel⟩
      | true =>
        go_wp2_with fail
        go_ret
        exact ⟨rfl, F0.out.bel⟩
  · have h0b : (l10 == 0) = false := by simpa using h0
    obtain ⟨i1, hi1⟩ : ∃ x, inB l10 1 9 = x := ⟨_, rfl⟩
    have HI1 : Hd (inB l10 1 9 = i1) := ⟨hi1⟩
    obtain ⟨i2, hi2⟩ : ∃ x, inB l11 0 65535 = x := ⟨_, rfl⟩
    have HI2 : Hd (inB l11 0 65535 = i2) := ⟨hi2⟩
    obtain ⟨i3, hi3⟩ : ∃ x, inB l12 0 6 = x := ⟨_, rfl⟩
    have HI3 : Hd (inB l12 0 6 = i3) := ⟨hi3⟩
    rw [if_neg h0, hi1, hi2, hi3]
    clear hi1 hi2 hi3
    go_enter Tryd.func73, Tryd.ntmps73
    go_wp2_with fail
    refine (l1In_any l10 1 9 _).mono ?_
    rintro e v1 ⟨rfl, hB⟩
    replace hB := same_below hB
    rewrite [HI1.out]
    have F1 : Hd (Bx 47 w #[.int .i64 l0, .string l1, .int .i64 l2, .slice x3 m3 d3, .int .i64 l4, .slice x5 m5 d5, .int .i64 l6, .bool l7, .string l8, .int .i64 l9, .int .i64 l10, .int .i64 l11, .int .i64 l12] v1) := ⟨F0.out.below hB⟩
    clear hB F0
    have cc11 := F1.out.cell 11 rfl
    have cc12 := F1.out.cell 12 rfl
    cases i1 with
    | false =>
      go_wp2_with fail
      go_ret
      exact ⟨rfl, F1.out.bel⟩
    | true =>
      go_wp2_with fail
      refine (l1Word_any l11 _).mono ?_
      rintro e v2 ⟨rfl, hB⟩
      replace hB := same_below hB
      rewrite [HI2.out]
      have F2 : Hd (Bx 47 w #[.int .i64 l0, .string l1, .int .i64 l2, .slice x3 m3 d3, .int .i64 l4, .slice x5 m5 d5, .int .i64 l6, .bool l7, .string l8, .int .i64 l9, .int .i64 l10, .int .i64 l11, .int .i64 l12] v2) := ⟨F1.out.below hB⟩
      clear hB F1
      clear cc11 cc12
      have cc12 := F2.out.cell 12 rfl
      cases i2 with
      | false =>
        go_wp2_with fail
        go_ret
        exact ⟨rfl, F2.out.bel⟩
      | true =>
        go_wp2_with fail
        refine (l1In_any l12 0 6 _).mono ?_
        rintro e v3 ⟨rfl, hB⟩
        replace hB := same_below hB
        rewrite [HI3.out]
        have F3 : Hd (Bx 47 w #[.int .i64 l0, .string l1, .int .i64 l2, .slice x3 m3 d3, .int .i64 l4, .slice x5 m5 d5, .int .i64 l6, .bool l7, .string l8, .int .i64 l9, .int .i64 l10, .int .i64 l11, .int .i64 l12] v3) := ⟨F2.out.below hB⟩
        clear hB F2
        clear cc12
        cases i3 with
        | false =>
          go_wp2_with fail
          go_ret
          exact ⟨rfl, F3.out.bel⟩
        | true =>
          go_wp2_with fail
          go_ret
          exact ⟨rfl, F3.out.bel⟩

set_option maxHeartbeats 8000000 in
theorem specRecOk_rd (cs : List Value) (a : RecD) (w : World) (h : RcRec w cs a) (hw : wtRec a ≤ 1048576) :
    Calls Tryd.prog 44 #[.agg cs.toArray] w fun e w' => e = .returned (.bool (recOk a)) ∧ Below w.heap.size w w' := by
  have HA : Hd (RcRec w cs a) := ⟨h⟩
  obtain ⟨l0, ⟨l1, l2, l3, l4, l5, l6, l7⟩, l8, l9, l10, l11, l12⟩ := a
  simp only [RcRec] at h
  obtain ⟨x3, m3, d3, x5, m5, d5, rfl, _, r1⟩ := h
  unfold wtRec at hw
  dsimp only at hw
  have HW : Hd (wtRow ⟨l1, l2, l3, l4, l5, l6, l7⟩ ≤ 1048576 ∧ l8.size ≤ 1048576) := ⟨by omega, by omega⟩
  have HR : Hd (RcRow w [.string l1, .int .i64 l2, .slice x3 m3 d3, .int .i64 l4, .slice x5 m5 d5, .int .i64 l6, .bool l7] ⟨l1, l2, l3, l4, l5, l6, l7⟩) := ⟨r1⟩
  clear hw r1
  have F0 : Hd (Bx 47 w #[.int .i64 l0, .string l1, .int .i64 l2, .slice x3 m3 d3, .int .i64 l4, .slice x5 m5 d5, .int .i64 l6, .bool l7, .string l8, .int .i64 l9, .int .i64 l10, .int .i64 l11, .int .i64 l12] (w.alloc (.cells #[.int .i64 l0, .string l1, .int .i64 l2, .slice x3 m3 d3, .int .i64 l4, .slice x5 m5 d5, .int .i64 l6, .bool l7, .string l8, .int .i64 l9, .int .i64 l10, .int .i64 l11, .int .i64 l12] 47))) := ⟨Bx.new _ w _⟩
  obtain ⟨nr, hnr⟩ : ∃ x, noRowB ⟨l1, l2, l3, l4, l5, l6, l7⟩ = x := ⟨_, rfl⟩
  have HNR : Hd (noRowB ⟨l1, l2, l3, l4, l5, l6, l7⟩ = nr) := ⟨hnr⟩
  obtain ⟨ro, hro⟩ : ∃ x, rOk ⟨l1, l2, l3, l4, l5, l6, l7⟩ = x := ⟨_, rfl⟩
  have HRO : Hd (rOk ⟨l1, l2, l3, l4, l5, l6, l7⟩ = ro) := ⟨hro⟩
  obtain ⟨nk, hnk⟩ : ∃ x, nameOkB l8 = x := ⟨_, rfl⟩
  have HNK : Hd (nameOkB l8 = nk) := ⟨hnk⟩
  obtain ⟨i7, hi7⟩ : ∃ x, inB l9 0 7 = x := ⟨_, rfl⟩
  have HI7 : Hd (inB l9 0 7 = i7) := ⟨hi7⟩
  obtain ⟨wb, hwb⟩ : ∃ x, whoB ⟨l0, ⟨l1, l2, l3, l4, l5, l6, l7⟩, l8, l9, l10, l11, l12⟩ = x := ⟨_, rfl⟩
  have HWB : Hd (whoB ⟨l0, ⟨l1, l2, l3, l4, l5, l6, l7⟩, l8, l9, l10, l11, l12⟩ = wb) := ⟨hwb⟩
  obtain ⟨ke, hke⟩ : ∃ x, l8.toList.isEmpty = x := ⟨_, rfl⟩
  obtain ⟨nz, hnz⟩ : ∃ x, (l9 == 0) = x := ⟨_, rfl⟩
  obtain ⟨i4, hi4⟩ : ∃ x, inB l0 1 4 = x := ⟨_, rfl⟩
  have HI4 : Hd (inB l0 1 4 = i4) := ⟨hi4⟩
  have HE : recOk ⟨l0, ⟨l1, l2, l3, l4, l5, l6, l7⟩, l8, l9, l10, l11, l12⟩ = (i4 && (if l0 = 1 then ro else nr) && (if l0 = 2 then nk else ke) && (if l0 = 3 then i7 else nz) && wb) := by
    simp only [recOk, hi4, hro, hnr, hnk, hke, hi7, hnz, hwb]
  rewrite [HE]
  clear HE hnr hro hnk hi7 hwb hi4
  by_cases e1 : l0 = 1
  · subst e1
    rw [if_pos rfl, if_neg (by decide), if_neg (by decide)]
    go_enter Tryd.func44, Tryd.ntmps44
    go_wp2_with fail
    refine (specNoRow_rd _ _ _ (rcRow_ok.below HR.out F0.out.bel)).mono ?_
    rintro e v1 ⟨rfl, hB⟩
    rewrite [HNR.out]
    have F1 : Hd (Bx 47 w #[.int .i64 1, .string l1, .int .i64 l2, .slice x3 m3 d3, .int .i64 l4, .slice x5 m5 d5, .int .i64 l6, .bool l7, .string l8, .int .i64 l9, .int .i64 l10, .int .i64 l11, .int .i64 l12] v1) := ⟨F0.out.below hB⟩
    clear hB F0
    have cc0 := F1.out.cell 0 rfl
    have cc1 := F1.out.cell 1 rfl
    have cc2 := F1.out.cell 2 rfl
    have cc3 := F1.out.cell 3 rfl
    have cc4 := F1.out.cell 4 rfl
    have cc5 := F1.out.cell 5 rfl
    have cc6 := F1.out.cell 6 rfl
    have cc7 := F1.out.cell 7 rfl
    have cc8 := F1.out.cell 8 rfl
    have cc9 := F1.out.cell 9 rfl
    have cc10 := F1.out.cell 10 rfl
    have cc11 := F1.out.cell 11 rfl
    have cc12 := F1.out.cell 12 rfl
    go_wp2_with fail
    refine (specRowOk_rd _ _ _ (rcRow_ok.below HR.out F1.out.bel) HW.out.1).mono ?_
    rintro e v2 ⟨rfl, hB⟩
    rewrite [HRO.out]
    have F2 : Hd (Bx 47 w #[.int .i64 1, .string l1, .int .i64 l2, .slice x3 m3 d3, .int .i64 l4, .slice x5 m5 d5, .int .i64 l6, .bool l7, .string l8, .int .i64 l9, .int .i64 l10, .int .i64 l11, .int .i64 l12] v2) := ⟨F1.out.below hB⟩
    clear hB F1
    clear cc0 cc1 cc2 cc3 cc4 cc5 cc6 cc7 cc8 cc9 cc10 cc11 cc12
    have cc0 := F2.out.cell 0 rfl
    have cc1 := F2.out.cell 1 rfl
    have cc2 := F2.out.cell 2 rfl
    have cc3 := F2.out.cell 3 rfl
    have cc4 := F2.out.cell 4 rfl
    have cc5 := F2.out.cell 5 rfl
    have cc6 := F2.out.cell 6 rfl
    have cc7 := F2.out.cell 7 rfl
    have cc8 := F2.out.cell 8 rfl
    have cc9 := F2.out.cell 9 rfl
    have cc10 := F2.out.cell 10 rfl
    have cc11 := F2.out.cell 11 rfl
    have cc12 := F2.out.cell 12 rfl
    go_wp2_with fail
    refine (l1In_any 1 1 4 _).mono ?_
    rintro e v3 ⟨rfl, hB⟩
    replace hB := same_below hB
    rewrite [HI4.out]
    have F3 : Hd (Bx 47 w #[.int .i64 1, .string l1, .int .i64 l2, .slice x3 m3 d3, .int .i64 l4, .slice x5 m5 d5, .int .i64 l6, .bool l7, .string l8, .int .i64 l9, .int .i64 l10, .int .i64 l11, .int .i64 l12] v3) := ⟨F2.out.below hB⟩
    clear hB F2
    clear cc0 cc1 cc2 cc3 cc4 cc5 cc6 cc7 cc8 cc9 cc10 cc11 cc12
    have cc0 := F3.out.cell 0 rfl
    have cc1 := F3.out.cell 1 rfl
    have cc2 := F3.out.cell 2 rfl
    have cc3 := F3.out.cell 3 rfl
    have cc4 := F3.out.cell 4 rfl
    have cc5 := F3.out.cell 5 rfl
    have cc6 := F3.out.cell 6 rfl
    have cc7 := F3.out.cell 7 rfl
    have cc8 := F3.out.cell 8 rfl
    have cc9 := F3.out.cell 9 rfl
    have cc10 := F3.out.cell 10 rfl
    have cc11 := F3.out.cell 11 rfl
    have cc12 := F3.out.cell 12 rfl
    cases i4 with
    | false =>
      go_wp2_with fail
      go_ret
      exact ⟨rfl, F3.out.bel⟩
    | true =>
      cases ro with
      | false =>
        go_wp2_with fail
        go_ret
        exact ⟨rfl, F3.out.bel⟩
      | true =>
        cases ke with
        | false =>
          go_wp2_with fail
          go_ret
          exact ⟨rfl, F3.out.bel⟩
        | true =>
          cases nz with
          | false =>
            go_wp2_with fail
            go_ret
            exact ⟨rfl, F3.out.bel⟩
          | true =>
            go_wp2_with fail
            refine (specWho_rd _ _ _ (rcRec_ok.below HA.out F3.out.bel)).mono ?_
            rintro e v4 ⟨rfl, hB⟩
            rewrite [HWB.out]
            have F4 : Hd (Bx 47 w #[.int .i64 1, .string l1, .int .i64 l2, .slice x3 m3 d3, .int .i64 l4, .slice x5 m5 d5, .int .i64 l6, .bool l7, .string l8, .int .i64 l9, .int .i64 l10, .int .i64 l11, .int .i64 l12] v4) := ⟨F3.out.below hB⟩
            clear hB F3
            clear cc0 cc1 cc2 cc3 cc4 cc5 cc6 cc7 cc8 cc9 cc10 cc11 cc12
            cases wb with
            | false =>
              go_wp2_with fail
              go_ret
              exact ⟨rfl, F4.out.bel⟩
            | true =>
              go_wp2_with fail
              go_ret
              exact ⟨rfl, F4.out.bel⟩
  by_cases e2 : l0 = 2
  · subst e2
    rw [if_neg (by decide), if_pos rfl, if_neg (by decide)]
    go_enter Tryd.func44, Tryd.ntmps44
    go_wp2_with fail
    refine (specNoRow_rd _ _ _ (rcRow_ok.below HR.out F0.out.bel)).mono ?_
    rintro e v1 ⟨rfl, hB⟩
    rewrite [HNR.out]
    have F1 : Hd (Bx 47 w #[.int .i64 2, .string l1, .int .i64 l2, .slice x3 m3 d3, .int .i64 l4, .slice x5 m5 d5, .int .i64 l6, .bool l7, .string l8, .int .i64 l9, .int .i64 l10, .int .i64 l11, .int .i64 l12] v1) := ⟨F0.out.below hB⟩
    clear hB F0
    have cc0 := F1.out.cell 0 rfl
    have cc1 := F1.out.cell 1 rfl
    have cc2 := F1.out.cell 2 rfl
    have cc3 := F1.out.cell 3 rfl
    have cc4 := F1.out.cell 4 rfl
    have cc5 := F1.out.cell 5 rfl
    have cc6 := F1.out.cell 6 rfl
    have cc7 := F1.out.cell 7 rfl
    have cc8 := F1.out.cell 8 rfl
    have cc9 := F1.out.cell 9 rfl
    have cc10 := F1.out.cell 10 rfl
    have cc11 := F1.out.cell 11 rfl
    have cc12 := F1.out.cell 12 rfl
    go_wp2_with fail
    refine (specNameOk_any l8 _ HW.out.2).mono ?_
    rintro e v2 ⟨rfl, hB⟩
    replace hB := same_below hB
    rewrite [HNK.out]
    have F2 : Hd (Bx 47 w #[.int .i64 2, .string l1, .int .i64 l2, .slice x3 m3 d3, .int .i64 l4, .slice x5 m5 d5, .int .i64 l6, .bool l7, .string l8, .int .i64 l9, .int .i64 l10, .int .i64 l11, .int .i64 l12] v2) := ⟨F1.out.below hB⟩
    clear hB F1
    clear cc0 cc1 cc2 cc3 cc4 cc5 cc6 cc7 cc8 cc9 cc10 cc11 cc12
    have cc0 := F2.out.cell 0 rfl
    have cc1 := F2.out.cell 1 rfl
    have cc2 := F2.out.cell 2 rfl
    have cc3 := F2.out.cell 3 rfl
    have cc4 := F2.out.cell 4 rfl
    have cc5 := F2.out.cell 5 rfl
    have cc6 := F2.out.cell 6 rfl
    have cc7 := F2.out.cell 7 rfl
    have cc8 := F2.out.cell 8 rfl
    have cc9 := F2.out.cell 9 rfl
    have cc10 := F2.out.cell 10 rfl
    have cc11 := F2.out.cell 11 rfl
    have cc12 := F2.out.cell 12 rfl
    go_wp2_with fail
    refine (l1In_any 2 1 4 _).mono ?_
    rintro e v3 ⟨rfl, hB⟩
    replace hB := same_below hB
    rewrite [HI4.out]
    have F3 : Hd (Bx 47 w #[.int .i64 2, .string l1, .int .i64 l2, .slice x3 m3 d3, .int .i64 l4, .slice x5 m5 d5, .int .i64 l6, .bool l7, .string l8, .int .i64 l9, .int .i64 l10, .int .i64 l11, .int .i64 l12] v3) := ⟨F2.out.below hB⟩
    clear hB F2
    clear cc0 cc1 cc2 cc3 cc4 cc5 cc6 cc7 cc8 cc9 cc10 cc11 cc12
    have cc0 := F3.out.cell 0 rfl
    have cc1 := F3.out.cell 1 rfl
    have cc2 := F3.out.cell 2 rfl
    have cc3 := F3.out.cell 3 rfl
    have cc4 := F3.out.cell 4 rfl
    have cc5 := F3.out.cell 5 rfl
    have cc6 := F3.out.cell 6 rfl
    have cc7 := F3.out.cell 7 rfl
    have cc8 := F3.out.cell 8 rfl
    have cc9 := F3.out.cell 9 rfl
    have cc10 := F3.out.cell 10 rfl
    have cc11 := F3.out.cell 11 rfl
    have cc12 := F3.out.cell 12 rfl
    cases i4 with
    | false =>
      go_wp2_with fail
      go_ret
      exact ⟨rfl, F3.out.bel⟩
    | true =>
      cases nr with
      | false =>
        go_wp2_with fail
        go_ret
        exact ⟨rfl, F3.out.bel⟩
      | true =>
        cases nk with
        | false =>
          go_wp2_with fail
          go_ret
          exact ⟨rfl, F3.out.bel⟩
        | true =>
          cases nz with
          | false =>
            go_wp2_with fail
            go_ret
            exact ⟨rfl, F3.out.bel⟩
          | true =>
            go_wp2_with fail
            refine (specWho_rd _ _ _ (rcRec_ok.below HA.out F3.out.bel)).mono ?_
            rintro e v4 ⟨rfl, hB⟩
            rewrite [HWB.out]
            have F4 : Hd (Bx 47 w #[.int .i64 2, .string l1, .int .i64 l2, .slice x3 m3 d3, .int .i64 l4, .slice x5 m5 d5, .int .i64 l6, .bool l7, .string l8, .int .i64 l9, .int .i64 l10, .int .i64 l11, .int .i64 l12] v4) := ⟨F3.out.below hB⟩
            clear hB F3
            clear cc0 cc1 cc2 cc3 cc4 cc5 cc6 cc7 cc8 cc9 cc10 cc11 cc12
            cases wb with
            | false =>
              go_wp2_with fail
              go_ret
              exact ⟨rfl, F4.out.bel⟩
            | true =>
              go_wp2_with fail
              go_ret
              exact ⟨rfl, F4.out.bel⟩
  by_cases e3 : l0 = 3
  · subst e3
    rw [if_neg (by decide), if_neg (by decide), if_pos rfl]
    go_enter Tryd.func44, Tryd.ntmps44
    go_wp2_with fail
    refine (specNoRow_rd _ _ _ (rcRow_ok.below HR.out F0.out.bel)).mono ?_
    rintro e v1 ⟨rfl, hB⟩
    rewrite [HNR.out]
    have F1 : Hd (Bx 47 w #[.int .i64 3, .string l1, .int .i64 l2, .slice x3 m3 d3, .int .i64 l4, .slice x5 m5 d5, .int .i64 l6, .bool l7, .string l8, .int .i64 l9, .int .i64 l10, .int .i64 l11, .int .i64 l12] v1) := ⟨F0.out.below hB⟩
    clear hB F0
    have cc0 := F1.out.cell 0 rfl
    have cc1 := F1.out.cell 1 rfl
    have cc2 := F1.out.cell 2 rfl
    have cc3 := F1.out.cell 3 rfl
    have cc4 := F1.out.cell 4 rfl
    have cc5 := F1.out.cell 5 rfl
    have cc6 := F1.out.cell 6 rfl
    have cc7 := F1.out.cell 7 rfl
    have cc8 := F1.out.cell 8 rfl
    have cc9 := F1.out.cell 9 rfl
    have cc10 := F1.out.cell 10 rfl
    have cc11 := F1.out.cell 11 rfl
    have cc12 := F1.out.cell 12 rfl
    go_wp2_with fail
    refine (l1In_any l9 0 7 _).mono ?_
    rintro e v2 ⟨rfl, hB⟩
    replace hB := same_below hB
    rewrite [HI7.out]
    have F2 : Hd (Bx 47 w #[.int .i64 3, .string l1, .int .i64 l2, .slice x3 m3 d3, .int .i64 l4, .slice x5 m5 d5, .int .i64 l6, .bool l7, .string l8, .int .i64 l9, .int .i64 l10, .int .i64 l11, .int .i64 l12] v2) := ⟨F1.out.below hB⟩
    clear hB F1
    clear cc0 cc1 cc2 cc3 cc4 cc5 cc6 cc7 cc8 cc9 cc10 cc11 cc12
    have cc0 := F2.out.cell 0 rfl
    have cc1 := F2.out.cell 1 rfl
    have cc2 := F2.out.cell 2 rfl
    have cc3 := F2.out.cell 3 rfl
    have cc4 := F2.out.cell 4 rfl
    have cc5 := F2.out.cell 5 rfl
    have cc6 := F2.out.cell 6 rfl
    have cc7 := F2.out.cell 7 rfl
    have cc8 := F2.out.cell 8 rfl
    have cc9 := F2.out.cell 9 rfl
    have cc10 := F2.out.cell 10 rfl
    have cc11 := F2.out.cell 11 rfl
    have cc12 := F2.out.cell 12 rfl
    go_wp2_with fail
    refine (l1In_any 3 1 4 _).mono ?_
    rintro e v3 ⟨rfl, hB⟩
    replace hB := same_below hB
    rewrite [HI4.out]
    have F3 : Hd (Bx 47 w #[.int .i64 3, .string l1, .int .i64 l2, .slice x3 m3 d3, .int .i64 l4, .slice x5 m5 d5, .int .i64 l6, .bool l7, .string l8, .int .i64 l9, .int .i64 l10, .int .i64 l11, .int .i64 l12] v3) := ⟨F2.out.below hB⟩
    clear hB F2
    clear cc0 cc1 cc2 cc3 cc4 cc5 cc6 cc7 cc8 cc9 cc10 cc11 cc12
    have cc0 := F3.out.cell 0 rfl
    have cc1 := F3.out.cell 1 rfl
    have cc2 := F3.out.cell 2 rfl
    have cc3 := F3.out.cell 3 rfl
    have cc4 := F3.out.cell 4 rfl
    have cc5 := F3.out.cell 5 rfl
    have cc6 := F3.out.cell 6 rfl
    have cc7 := F3.out.cell 7 rfl
    have cc8 := F3.out.cell 8 rfl
    have cc9 := F3.out.cell 9 rfl
    have cc10 := F3.out.cell 10 rfl
    have cc11 := F3.out.cell 11 rfl
    have cc12 := F3.out.cell 12 rfl
    cases i4 with
    | false =>
      go_wp2_with fail
      go_ret
      exact ⟨rfl, F3.out.bel⟩
    | true =>
      cases nr with
      | false =>
        go_wp2_with fail
        go_ret
        exact ⟨rfl, F3.out.bel⟩
      | true =>
        cases ke with
        | false =>
          go_wp2_with fail
          go_ret
          exact ⟨rfl, F3.out.bel⟩
        | true =>
          cases i7 with
          | false =>
            go_wp2_with fail
            go_ret
            exact ⟨rfl, F3.out.bel⟩
          | true =>
            go_wp2_with fail
            refine (specWho_rd _ _ _ (rcRec_ok.below HA.out F3.out.bel)).mono ?_
            rintro e v4 ⟨rfl, hB⟩
            rewrite [HWB.out]
            have F4 : Hd (Bx 47 w #[.int .i64 3, .string l1, .int .i64 l2, .slice x3 m3 d3, .int .i64 l4, .slice x5 m5 d5, .int .i64 l6, .bool l7, .string l8, .int .i64 l9, .int .i64 l10, .int .i64 l11, .int .i64 l12] v4) := ⟨F3.out.below hB⟩
            clear hB F3
            clear cc0 cc1 cc2 cc3 cc4 cc5 cc6 cc7 cc8 cc9 cc10 cc11 cc12
            cases wb with
            | false =>
              go_wp2_with fail
              go_ret
              exact ⟨rfl, F4.out.bel⟩
            | true =>
              go_wp2_with fail
              go_ret
              exact ⟨rfl, F4.out.bel⟩
  have k1 : (l0 == 1) = false := by simpa using e1
  have k2 : (l0 == 2) = false := by simpa using e2
  have k3 : (l0 == 3) = false := by simpa using e3
  rw [if_neg e1, if_neg e2, if_neg e3]
  go_enter Tryd.func44, Tryd.ntmps44
  go_wp2_with fail
  refine (specNoRow_rd _ _ _ (rcRow_ok.below HR.out F0.out.bel)).mono ?_
  rintro e v1 ⟨rfl, hB⟩
  rewrite [HNR.out]
  have F1 : Hd (Bx 47 w #[.int .i64 l0, .string l1, .int .i64 l2, .slice x3 m3 d3, .int .i64 l4, .slice x5 m5 d5, .int .i64 l6, .bool l7, .string l8, .int .i64 l9, .int .i64 l10, .int .i64 l11, .int .i64 l12] v1) := ⟨F0.out.below hB⟩
  clear hB F0
  have cc0 := F1.out.cell 0 rfl
  have cc1 := F1.out.cell 1 rfl
  have cc2 := F1.out.cell 2 rfl
  have cc3 := F1.out.cell 3 rfl
  have cc4 := F1.out.cell 4 rfl
  have cc5 := F1.out.cell 5 rfl
  have cc6 := F1.out.cell 6 rfl
  have cc7 := F1.out.cell 7 rfl
  have cc8 := F1.out.cell 8 rfl
  have cc9 := F1.out.cell 9 rfl
  have cc10 := F1.out.cell 10 rfl
  have cc11 := F1.out.cell 11 rfl
  have cc12 := F1.out.cell 12 rfl
  go_wp2_with fail
  refine (l1In_any l0 1 4 _).mono ?_
  rintro e v2 ⟨rfl, hB⟩
  replace hB := same_below hB
  rewrite [HI4.out]
  have F2 : Hd (Bx 47 w #[.int .i64 l0, .string l1, .int .i64 l2, .slice x3 m3 d3, .int .i64 l4, .slice x5 m5 d5, .int .i64 l6, .bool l7, .string l8, .int .i64 l9, .int .i64 l10, .int .i64 l11, .int .i64 l12] v2) := ⟨F1.out.below hB⟩
  clear hB F1
  clear cc0 cc1 cc2 cc3 cc4 cc5 cc6 cc7 cc8 cc9 cc10 cc11 cc12
  have cc0 := F2.out.cell 0 rfl
  have cc1 := F2.out.cell 1 rfl
  have cc2 := F2.out.cell 2 rfl
  have cc3 := F2.out.cell 3 rfl
  have cc4 := F2.out.cell 4 rfl
  have cc5 := F2.out.cell 5 rfl
  have cc6 := F2.out.cell 6 rfl
  have cc7 := F2.out.cell 7 rfl
  have cc8 := F2.out.cell 8 rfl
  have cc9 := F2.out.cell 9 rfl
  have cc10 := F2.out.cell 10 rfl
  have cc11 := F2.out.cell 11 rfl
  have cc12 := F2.out.cell 12 rfl
  cases i4 with
  | false =>
    go_wp2_with fail
    go_ret
    exact ⟨rfl, F2.out.bel⟩
  | true =>
    cases nr with
    | false =>
      go_wp2_with fail
      go_ret
      exact ⟨rfl, F2.out.bel⟩
    | true =>
      cases ke with
      | false =>
        go_wp2_with fail
        go_ret
        exact ⟨rfl, F2.out.bel⟩
      | true =>
        cases nz with
        | false =>
          go_wp2_with fail
          go_ret
          exact ⟨rfl, F2.out.bel⟩
        | true =>
          go_wp2_with fail
          refine (specWho_rd _ _ _ (rcRec_ok.below HA.out F2.out.bel)).mono ?_
          rintro e v3 ⟨rfl, hB⟩
          rewrite [HWB.out]
          have F3 : Hd (Bx 47 w #[.int .i64 l0, .string l1, .int .i64 l2, .slice x3 m3 d3, .int .i64 l4, .slice x5 m5 d5, .int .i64 l6, .bool l7, .string l8, .int .i64 l9, .int .i64 l10, .int .i64 l11, .int .i64 l12] v3) := ⟨F2.out.below hB⟩
          clear hB F2
          clear cc0 cc1 cc2 cc3 cc4 cc5 cc6 cc7 cc8 cc9 cc10 cc11 cc12
          cases wb with
          | false =>
            go_wp2_with fail
            go_ret
            exact ⟨rfl, F3.out.bel⟩
          | true =>
            go_wp2_with fail
            go_ret
            exact ⟨rfl, F3.out.bel⟩

end Go.Proofs.YtbeiocngiippgabDoor
