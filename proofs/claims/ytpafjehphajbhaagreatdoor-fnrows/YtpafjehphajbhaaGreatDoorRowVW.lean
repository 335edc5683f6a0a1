/- Contracts of l9Copy and RowOk, in the specification; rows as answers. What FillRow, CutRow and BackRow carry along: the row's box, the result's, and the copy's; the contract of l9Copy. Contracts of FillRow, CutRow and BackRow, in the specification. The contract of RowOf, in the specification. -/
import Derived.Test.YtpafjehphajbhaaGreatDoorRowU
import Derived.Deep.RegionHeld3
namespace Go.Proofs.YtpafjehphajbhaaGreatDoor
set_option maxRecDepth 4000
open Go.RowKit

theorem same_below {w w' : World} (h : w' = w) : Below w.heap.size w w' := by subst h; exact Below.refl _ _
theorem hO1 : Hd (oldB 1 = true) := ⟨has_one.1⟩
theorem hN1 : Hd (newB 1 = false) := ⟨has_one.2⟩
theorem hO2 : Hd (oldB 2 = false) := ⟨has_two.1⟩
theorem hN2 : Hd (newB 2 = true) := ⟨has_two.2⟩
theorem hO3 : Hd (oldB 3 = true) := ⟨has_three.1⟩
theorem hN3 : Hd (newB 3 = true) := ⟨has_three.2⟩

set_option maxHeartbeats 4000000 in
theorem specRowOk_any (k : ByteArray) (t1 : Int) (a1 : Option Addr) (n1 c1 : Nat) (t2 : Int) (a2 : Option Addr) (n2 c2 : Nat) (has : Int) (asd : Bool) (b1 b2 : List UInt8) (w : World) (hk : k.size ≤ 1048576) (h1 : CellAt w a1 n1 c1 b1) (h2 : CellAt w a2 n2 c2 b2) (hl1 : n1 ≤ 1048576) (hl2 : n2 ≤ 1048576) :
    Calls Tryz.prog 25 #[.agg #[.string k, .int .i64 t1, .slice a1 n1 c1, .int .i64 t2, .slice a2 n2 c2, .int .i64 has, .bool asd]] w fun e w' => e = .returned (.bool (rOk ⟨k, t1, b1, t2, b2, has, asd⟩)) ∧ Below w.heap.size w w' := by
  have H1 : Hd (CellAt w a1 n1 c1 b1) := ⟨h1⟩
  have H2 : Hd (CellAt w a2 n2 c2 b2) := ⟨h2⟩
  have F0 : Hd (RBox w w.heap.size k t1 a1 n1 c1 t2 a2 n2 c2 has asd (w.alloc (.cells #[.string k, .int .i64 t1, .slice a1 n1 c1, .int .i64 t2, .slice a2 n2 c2, .int .i64 has, .bool asd] 29))) := ⟨rBox_new w k t1 a1 n1 c1 t2 a2 n2 c2 has asd⟩
  obtain ⟨nk, hnk⟩ : ∃ x, nameOkB k = x := ⟨_, rfl⟩
  have HNK : Hd (nameOkB k = nk) := ⟨hnk⟩
  obtain ⟨ih, hih⟩ : ∃ x, inB has 1 3 = x := ⟨_, rfl⟩
  have HIH : Hd (inB has 1 3 = ih) := ⟨hih⟩
  obtain ⟨z1, hz1⟩ : ∃ x, noneB t1 n1 = x := ⟨_, rfl⟩
  have HZ1 : Hd (noneB t1 n1 = z1) := ⟨hz1⟩
  obtain ⟨z2, hz2⟩ : ∃ x, noneB t2 n2 = x := ⟨_, rfl⟩
  have HZ2 : Hd (noneB t2 n2 = z2) := ⟨hz2⟩
  obtain ⟨i1, hi1⟩ : ∃ x, inB t1 1 5 = x := ⟨_, rfl⟩
  have HI1 : Hd (inB t1 1 5 = i1) := ⟨hi1⟩
  obtain ⟨c1k, hc1⟩ : ∃ x, cOk t1 n1 = x := ⟨_, rfl⟩
  have HC1 : Hd (cOk t1 n1 = c1k) := ⟨hc1⟩
  obtain ⟨e2, he2⟩ : ∃ x, (t2 == 0) = x := ⟨_, rfl⟩
  obtain ⟨k1, hk1⟩ : ∃ x, tOk t1 b1 = x := ⟨_, rfl⟩
  have HK1 : Hd (tOk t1 b1 = k1) := ⟨hk1⟩
  obtain ⟨k2, hk2⟩ : ∃ x, tOk t2 b2 = x := ⟨_, rfl⟩
  have HK2 : Hd (tOk t2 b2 = k2) := ⟨hk2⟩
  obtain ⟨S1, hs1⟩ : ∃ x, (tS t1 b1).toArray = x := ⟨_, rfl⟩
  have HS1 : Hd ((tS t1 b1).toArray = S1) := ⟨hs1⟩
  obtain ⟨S2, hs2⟩ : ∃ x, (tS t2 b2).toArray = x := ⟨_, rfl⟩
  have HS2 : Hd ((tS t2 b2).toArray = S2) := ⟨hs2⟩
  obtain ⟨m, hm⟩ : ∃ x, mOk t1 b1 t2 b2 = x := ⟨_, rfl⟩
  have HM : Hd (mOk t1 b1 t2 b2 = m) := ⟨hm⟩
  have E : Hd (rOk ⟨k, t1, b1, t2, b2, has, asd⟩ = (nk && ih && (oldB has || z1) && (newB has || z2) && (!oldB has || (i1 && c1k)) && (!newB has || (e2 && k2)) && (!oldB has || k1 || (asd && !newB has)) && (has != 3 || m))) := ⟨by
    simp only [rOk, h1.size, h2.size, hnk, hih, hz1, hz2, hi1, hc1, he2, hk1, hk2, hm]⟩
  rewrite [E.out]
  have he2n : (t2 != 0) = !e2 := by rw [← he2]; rfl
  clear h1 h2 hnk hih hz1 hz2 hi1 hc1 he2 hk1 hk2 hs1 hs2 hm E
  go_enter Tryz.func25, Tryz.ntmps25
  go_wp2_with fail
  refine (specNameOk_any k _ hk).mono ?_
  rintro e v1 ⟨rfl, hB⟩
  replace hB := same_below hB
  rewrite [HNK.out]
  have F1 : Hd (RBox w w.heap.size k t1 a1 n1 c1 t2 a2 n2 c2 has asd v1) := ⟨F0.out.below hB⟩
  obtain ⟨x0, x1, x2, x3, x4, x5, x6⟩ := cells7 v1 w.heap.size _ _ _ _ _ _ _ _ F1.out.box
  clear hB F0
  cases nk with
  | false =>
    go_wp2_with fail
    go_ret
    exact ⟨rfl, F1.out.bel⟩
  | true =>
    go_wp2_with fail
    clear x0 x1 x2 x3 x4 x5 x6
    refine (l1In_any has 1 3 _).mono ?_
    rintro e v2 ⟨rfl, hB⟩
    replace hB := same_below hB
    rewrite [HIH.out]
    have F2 : Hd (RBox w w.heap.size k t1 a1 n1 c1 t2 a2 n2 c2 has asd v2) := ⟨F1.out.below hB⟩
    obtain ⟨x0, x1, x2, x3, x4, x5, x6⟩ := cells7 v2 w.heap.size _ _ _ _ _ _ _ _ F2.out.box
    clear hB F1
    cases ih with
    | false =>
      go_wp2_with fail
      go_ret
      exact ⟨rfl, F2.out.bel⟩
    | true =>
      rcases has_cases HIH.out with rfl | rfl | rfl
      · go_wp2_with fail
        clear x0 x1 x2 x3 x4 x5 x6
        refine (l9Old_any k t1 a1 n1 c1 t2 a2 n2 c2 1 asd _).mono ?_
        rintro e v3 ⟨rfl, hB⟩
        rewrite [hO1.out]
        have F3 : Hd (RBox w w.heap.size k t1 a1 n1 c1 t2 a2 n2 c2 1 asd v3) := ⟨F2.out.below hB⟩
        obtain ⟨x0, x1, x2, x3, x4, x5, x6⟩ := cells7 v3 w.heap.size _ _ _ _ _ _ _ _ F3.out.box
        clear hB F2
        go_wp2_with fail
        clear x0 x1 x2 x3 x4 x5 x6
        refine (l9New_any k t1 a1 n1 c1 t2 a2 n2 c2 1 asd _).mono ?_
        rintro e v4 ⟨rfl, hB⟩
        rewrite [hN1.out]
        have F4 : Hd (RBox w w.heap.size k t1 a1 n1 c1 t2 a2 n2 c2 1 asd v4) := ⟨F3.out.below hB⟩
        obtain ⟨x0, x1, x2, x3, x4, x5, x6⟩ := cells7 v4 w.heap.size _ _ _ _ _ _ _ _ F4.out.box
        clear hB F3
        go_wp2_with fail
        clear x0 x1 x2 x3 x4 x5 x6
        refine (l9None_any t2 a2 n2 c2 _).mono ?_
        rintro e v5 ⟨rfl, hB⟩
        rewrite [HZ2.out]
        have F5 : Hd (RBox w w.heap.size k t1 a1 n1 c1 t2 a2 n2 c2 1 asd v5) := ⟨F4.out.below hB⟩
        obtain ⟨x0, x1, x2, x3, x4, x5, x6⟩ := cells7 v5 w.heap.size _ _ _ _ _ _ _ _ F5.out.box
        clear hB F4
        cases z2 with
        | false =>
          go_wp2_with fail
          go_ret
          exact ⟨by rw [has_one.1, has_one.2]; rfl, F5.out.bel⟩
        | true =>
          go_wp2_with fail
          clear x0 x1 x2 x3 x4 x5 x6
          refine (specCellText_any t1 a1 n1 c1 b1 _ (H1.out.below F5.out.bel) hl1).mono ?_
          rintro e v6 ⟨rfl, hB⟩
          rewrite [HS1.out, HK1.out]
          have F6 : Hd (RBox w w.heap.size k t1 a1 n1 c1 t2 a2 n2 c2 1 asd v6) := ⟨F5.out.below hB⟩
          obtain ⟨x0, x1, x2, x3, x4, x5, x6⟩ := cells7 v6 w.heap.size _ _ _ _ _ _ _ _ F6.out.box
          clear hB F5
          go_wp2_with fail
          clear x0 x1 x2 x3 x4 x5 x6
          refine (specCellText_any t2 a2 n2 c2 b2 _ (H2.out.below F6.out.bel) hl2).mono ?_
          rintro e v7 ⟨rfl, hB⟩
          rewrite [HS2.out, HK2.out]
          have F7 : Hd (RBox w w.heap.size k t1 a1 n1 c1 t2 a2 n2 c2 1 asd v7) := ⟨F6.out.below hB⟩
          obtain ⟨x0, x1, x2, x3, x4, x5, x6⟩ := cells7 v7 w.heap.size _ _ _ _ _ _ _ _ F7.out.box
          clear hB F6
          go_wp2_with fail
          clear x0 x1 x2 x3 x4 x5 x6
          refine (l9Old_any k t1 a1 n1 c1 t2 a2 n2 c2 1 asd _).mono ?_
          rintro e v8 ⟨rfl, hB⟩
          rewrite [hO1.out]
          have F8 : Hd (RBox w w.heap.size k t1 a1 n1 c1 t2 a2 n2 c2 1 asd v8) := ⟨F7.out.below hB⟩
          obtain ⟨x0, x1, x2, x3, x4, x5, x6⟩ := cells7 v8 w.heap.size _ _ _ _ _ _ _ _ F8.out.box
          clear hB F7
          go_wp2_with fail
          clear x0 x1 x2 x3 x4 x5 x6
          refine (l1In_any t1 1 5 _).mono ?_
          rintro e v9 ⟨rfl, hB⟩
          replace hB := same_below hB
          rewrite [HI1.out]
          have F9 : Hd (RBox w w.heap.size k t1 a1 n1 c1 t2 a2 n2 c2 1 asd v9) := ⟨F8.out.below hB⟩
          obtain ⟨x0, x1, x2, x3, x4, x5, x6⟩ := cells7 v9 w.heap.size _ _ _ _ _ _ _ _ F9.out.box
          clear hB F8
          cases i1 with
          | false =>
            go_wp2_with fail
            go_ret
            exact ⟨by rw [has_one.1, has_one.2]; rfl, F9.out.bel⟩
          | true =>
            go_wp2_with fail
            clear x0 x1 x2 x3 x4 x5 x6
            refine (specCellOk_any t1 a1 n1 c1 _).mono ?_
            rintro e v10 ⟨rfl, hB⟩
            rewrite [HC1.out]
            have F10 : Hd (RBox w w.heap.size k t1 a1 n1 c1 t2 a2 n2 c2 1 asd v10) := ⟨F9.out.below hB⟩
            obtain ⟨x0, x1, x2, x3, x4, x5, x6⟩ := cells7 v10 w.heap.size _ _ _ _ _ _ _ _ F10.out.box
            clear hB F9
            cases c1k with
            | false =>
              go_wp2_with fail
              go_ret
              exact ⟨by rw [has_one.1, has_one.2]; rfl, F10.out.bel⟩
            | true =>
              go_wp2_with fail
              clear x0 x1 x2 x3 x4 x5 x6
              refine (l9New_any k t1 a1 n1 c1 t2 a2 n2 c2 1 asd _).mono ?_
              rintro e v11 ⟨rfl, hB⟩
              rewrite [hN1.out]
              have F11 : Hd (RBox w w.heap.size k t1 a1 n1 c1 t2 a2 n2 c2 1 asd v11) := ⟨F10.out.below hB⟩
              obtain ⟨x0, x1, x2, x3, x4, x5, x6⟩ := cells7 v11 w.heap.size _ _ _ _ _ _ _ _ F11.out.box
              clear hB F10
              go_wp2_with fail
              clear x0 x1 x2 x3 x4 x5 x6
              refine (l9Old_any k t1 a1 n1 c1 t2 a2 n2 c2 1 asd _).mono ?_
              rintro e v12 ⟨rfl, hB⟩
              rewrite [hO1.out]
              have F12 : Hd (RBox w w.heap.size k t1 a1 n1 c1 t2 a2 n2 c2 1 asd v12) := ⟨F11.out.below hB⟩
              obtain ⟨x0, x1, x2, x3, x4, x5, x6⟩ := cells7 v12 w.heap.size _ _ _ _ _ _ _ _ F12.out.box
              clear hB F11
              cases k1 with
              | true =>
                go_wp2_with fail
                go_ret
                exact ⟨by rw [has_one.1, has_one.2]; rfl, F12.out.bel⟩
              | false =>
                cases asd with
                | false =>
                  go_wp2_with fail
                  go_ret
                  exact ⟨by rw [has_one.1, has_one.2]; rfl, F12.out.bel⟩
                | true =>
                  go_wp2_with fail
                  clear x0 x1 x2 x3 x4 x5 x6
                  refine (l9New_any k t1 a1 n1 c1 t2 a2 n2 c2 1 true _).mono ?_
                  rintro e v13 ⟨rfl, hB⟩
                  rewrite [hN1.out]
                  have F13 : Hd (RBox w w.heap.size k t1 a1 n1 c1 t2 a2 n2 c2 1 true v13) := ⟨F12.out.below hB⟩
                  obtain ⟨x0, x1, x2, x3, x4, x5, x6⟩ := cells7 v13 w.heap.size _ _ _ _ _ _ _ _ F13.out.box
                  clear hB F12
                  go_wp2_with fail
                  go_ret
                  exact ⟨by rw [has_one.1, has_one.2]; rfl, F13.out.bel⟩
      · go_wp2_with fail
        clear x0 x1 x2 x3 x4 x5 x6
        refine (l9Old_any k t1 a1 n1 c1 t2 a2 n2 c2 2 asd _).mono ?_
        rintro e v3 ⟨rfl, hB⟩
        rewrite [hO2.out]
        have F3 : Hd (RBox w w.heap.size k t1 a1 n1 c1 t2 a2 n2 c2 2 asd v3) := ⟨F2.out.below hB⟩
        obtain ⟨x0, x1, x2, x3, x4, x5, x6⟩ := cells7 v3 w.heap.size _ _ _ _ _ _ _ _ F3.out.box
        clear hB F2
        go_wp2_with fail
        clear x0 x1 x2 x3 x4 x5 x6
        refine (l9None_any t1 a1 n1 c1 _).mono ?_
        rintro e v4 ⟨rfl, hB⟩
        rewrite [HZ1.out]
        have F4 : Hd (RBox w w.heap.size k t1 a1 n1 c1 t2 a2 n2 c2 2 asd v4) := ⟨F3.out.below hB⟩
        obtain ⟨x0, x1, x2, x3, x4, x5, x6⟩ := cells7 v4 w.heap.size _ _ _ _ _ _ _ _ F4.out.box
        clear hB F3
        cases z1 with
        | false =>
          go_wp2_with fail
          go_ret
          exact ⟨by rw [has_two.1, has_two.2]; rfl, F4.out.bel⟩
        | true =>
          go_wp2_with fail
          clear x0 x1 x2 x3 x4 x5 x6
          refine (l9New_any k t1 a1 n1 c1 t2 a2 n2 c2 2 asd _).mono ?_
          rintro e v5 ⟨rfl, hB⟩
          rewrite [hN2.out]
          have F5 : Hd (RBox w w.heap.size k t1 a1 n1 c1 t2 a2 n2 c2 2 asd v5) := ⟨F4.out.below hB⟩
          obtain ⟨x0, x1, x2, x3, x4, x5, x6⟩ := cells7 v5 w.heap.size _ _ _ _ _ _ _ _ F5.out.box
          clear hB F4
          go_wp2_with fail
          clear x0 x1 x2 x3 x4 x5 x6
          refine (specCellText_any t1 a1 n1 c1 b1 _ (H1.out.below F5.out.bel) hl1).mono ?_
          rintro e v6 ⟨rfl, hB⟩
          rewrite [HS1.out, HK1.out]
          have F6 : Hd (RBox w w.heap.size k t1 a1 n1 c1 t2 a2 n2 c2 2 asd v6) := ⟨F5.out.below hB⟩
          obtain ⟨x0, x1, x2, x3, x4, x5, x6⟩ := cells7 v6 w.heap.size _ _ _ _ _ _ _ _ F6.out.box
          clear hB F5
          go_wp2_with fail
          clear x0 x1 x2 x3 x4 x5 x6
          refine (specCellText_any t2 a2 n2 c2 b2 _ (H2.out.below F6.out.bel) hl2).mono ?_
          rintro e v7 ⟨rfl, hB⟩
          rewrite [HS2.out, HK2.out]
          have F7 : Hd (RBox w w.heap.size k t1 a1 n1 c1 t2 a2 n2 c2 2 asd v7) := ⟨F6.out.below hB⟩
          obtain ⟨x0, x1, x2, x3, x4, x5, x6⟩ := cells7 v7 w.heap.size _ _ _ _ _ _ _ _ F7.out.box
          clear hB F6
          go_wp2_with fail
          clear x0 x1 x2 x3 x4 x5 x6
          refine (l9Old_any k t1 a1 n1 c1 t2 a2 n2 c2 2 asd _).mono ?_
          rintro e v8 ⟨rfl, hB⟩
          rewrite [hO2.out]
          have F8 : Hd (RBox w w.heap.size k t1 a1 n1 c1 t2 a2 n2 c2 2 asd v8) := ⟨F7.out.below hB⟩
          obtain ⟨x0, x1, x2, x3, x4, x5, x6⟩ := cells7 v8 w.heap.size _ _ _ _ _ _ _ _ F8.out.box
          clear hB F7
          go_wp2_with fail
          clear x0 x1 x2 x3 x4 x5 x6
          refine (l9New_any k t1 a1 n1 c1 t2 a2 n2 c2 2 asd _).mono ?_
          rintro e v9 ⟨rfl, hB⟩
          rewrite [hN2.out]
          have F9 : Hd (RBox w w.heap.size k t1 a1 n1 c1 t2 a2 n2 c2 2 asd v9) := ⟨F8.out.below hB⟩
          obtain ⟨x0, x1, x2, x3, x4, x5, x6⟩ := cells7 v9 w.heap.size _ _ _ _ _ _ _ _ F9.out.box
          clear hB F8
          cases e2 with
          | false =>
            go_wp2_with fail
            go_ret
            exact ⟨by rw [has_two.1, has_two.2]; rfl, F9.out.bel⟩
          | true =>
            cases k2 with
            | false =>
              go_wp2_with fail
              go_ret
              exact ⟨by rw [has_two.1, has_two.2]; rfl, F9.out.bel⟩
            | true =>
              go_wp2_with fail
              clear x0 x1 x2 x3 x4 x5 x6
              refine (l9Old_any k t1 a1 n1 c1 t2 a2 n2 c2 2 asd _).mono ?_
              rintro e v10 ⟨rfl, hB⟩
              rewrite [hO2.out]
              have F10 : Hd (RBox w w.heap.size k t1 a1 n1 c1 t2 a2 n2 c2 2 asd v10) := ⟨F9.out.below hB⟩
              obtain ⟨x0, x1, x2, x3, x4, x5, x6⟩ := cells7 v10 w.heap.size _ _ _ _ _ _ _ _ F10.out.box
              clear hB F9
              go_wp2_with fail
              go_ret
              exact ⟨by rw [has_two.1, has_two.2]; rfl, F10.out.bel⟩
      · go_wp2_with fail
        clear x0 x1 x2 x3 x4 x5 x6
        refine (l9Old_any k t1 a1 n1 c1 t2 a2 n2 c2 3 asd _).mono ?_
        rintro e v3 ⟨rfl, hB⟩
        rewrite [hO3.out]
        have F3 : Hd (RBox w w.heap.size k t1 a1 n1 c1 t2 a2 n2 c2 3 asd v3) := ⟨F2.out.below hB⟩
        obtain ⟨x0, x1, x2, x3, x4, x5, x6⟩ := cells7 v3 w.heap.size _ _ _ _ _ _ _ _ F3.out.box
        clear hB F2
        go_wp2_with fail
        clear x0 x1 x2 x3 x4 x5 x6
        refine (l9New_any k t1 a1 n1 c1 t2 a2 n2 c2 3 asd _).mono ?_
        rintro e v4 ⟨rfl, hB⟩
        rewrite [hN3.out]
        have F4 : Hd (RBox w w.heap.size k t1 a1 n1 c1 t2 a2 n2 c2 3 asd v4) := ⟨F3.out.below hB⟩
        obtain ⟨x0, x1, x2, x3, x4, x5, x6⟩ := cells7 v4 w.heap.size _ _ _ _ _ _ _ _ F4.out.box
        clear hB F3
        go_wp2_with fail
        clear x0 x1 x2 x3 x4 x5 x6
        refine (specCellText_any t1 a1 n1 c1 b1 _ (H1.out.below F4.out.bel) hl1).mono ?_
        rintro e v5 ⟨rfl, hB⟩
        rewrite [HS1.out, HK1.out]
        have F5 : Hd (RBox w w.heap.size k t1 a1 n1 c1 t2 a2 n2 c2 3 asd v5) := ⟨F4.out.below hB⟩
        obtain ⟨x0, x1, x2, x3, x4, x5, x6⟩ := cells7 v5 w.heap.size _ _ _ _ _ _ _ _ F5.out.box
        clear hB F4
        go_wp2_with fail
        clear x0 x1 x2 x3 x4 x5 x6
        refine (specCellText_any t2 a2 n2 c2 b2 _ (H2.out.below F5.out.bel) hl2).mono ?_
        rintro e v6 ⟨rfl, hB⟩
        rewrite [HS2.out, HK2.out]
        have F6 : Hd (RBox w w.heap.size k t1 a1 n1 c1 t2 a2 n2 c2 3 asd v6) := ⟨F5.out.below hB⟩
        obtain ⟨x0, x1, x2, x3, x4, x5, x6⟩ := cells7 v6 w.heap.size _ _ _ _ _ _ _ _ F6.out.box
        clear hB F5
        go_wp2_with fail
        clear x0 x1 x2 x3 x4 x5 x6
        refine (l9Old_any k t1 a1 n1 c1 t2 a2 n2 c2 3 asd _).mono ?_
        rintro e v7 ⟨rfl, hB⟩
        rewrite [hO3.out]
        have F7 : Hd (RBox w w.heap.size k t1 a1 n1 c1 t2 a2 n2 c2 3 asd v7) := ⟨F6.out.below hB⟩
        obtain ⟨x0, x1, x2, x3, x4, x5, x6⟩ := cells7 v7 w.heap.size _ _ _ _ _ _ _ _ F7.out.box
        clear hB F6
        go_wp2_with fail
        clear x0 x1 x2 x3 x4 x5 x6
        refine (l1In_any t1 1 5 _).mono ?_
        rintro e v8 ⟨rfl, hB⟩
        replace hB := same_below hB
        rewrite [HI1.out]
        have F8 : Hd (RBox w w.heap.size k t1 a1 n1 c1 t2 a2 n2 c2 3 asd v8) := ⟨F7.out.below hB⟩
        obtain ⟨x0, x1, x2, x3, x4, x5, x6⟩ := cells7 v8 w.heap.size _ _ _ _ _ _ _ _ F8.out.box
        clear hB F7
        cases i1 with
        | false =>
          go_wp2_with fail
          go_ret
          exact ⟨by rw [has_three.1, has_three.2]; rfl, F8.out.bel⟩
        | true =>
          go_wp2_with fail
          clear x0 x1 x2 x3 x4 x5 x6
          refine (specCellOk_any t1 a1 n1 c1 _).mono ?_
          rintro e v9 ⟨rfl, hB⟩
          rewrite [HC1.out]
          have F9 : Hd (RBox w w.heap.size k t1 a1 n1 c1 t2 a2 n2 c2 3 asd v9) := ⟨F8.out.below hB⟩
          obtain ⟨x0, x1, x2, x3, x4, x5, x6⟩ := cells7 v9 w.heap.size _ _ _ _ _ _ _ _ F9.out.box
          clear hB F8
          cases c1k with
          | false =>
            go_wp2_with fail
            go_ret
            exact ⟨by rw [has_three.1, has_three.2]; rfl, F9.out.bel⟩
          | true =>
            go_wp2_with fail
            clear x0 x1 x2 x3 x4 x5 x6
            refine (l9New_any k t1 a1 n1 c1 t2 a2 n2 c2 3 asd _).mono ?_
            rintro e v10 ⟨rfl, hB⟩
            rewrite [hN3.out]
            have F10 : Hd (RBox w w.heap.size k t1 a1 n1 c1 t2 a2 n2 c2 3 asd v10) := ⟨F9.out.below hB⟩
            obtain ⟨x0, x1, x2, x3, x4, x5, x6⟩ := cells7 v10 w.heap.size _ _ _ _ _ _ _ _ F10.out.box
            clear hB F9
            cases e2 with
            | false =>
              go_wp2_with fail
              go_ret
              exact ⟨by rw [has_three.1, has_three.2]; rfl, F10.out.bel⟩
            | true =>
              cases k2 with
              | false =>
                go_wp2_with fail
                go_ret
                exact ⟨by rw [has_three.1, has_three.2]; rfl, F10.out.bel⟩
              | true =>
                go_wp2_with fail
                clear x0 x1 x2 x3 x4 x5 x6
                refine (l9Old_any k t1 a1 n1 c1 t2 a2 n2 c2 3 asd _).mono ?_
                rintro e v11 ⟨rfl, hB⟩
                rewrite [hO3.out]
                have F11 : Hd (RBox w w.heap.size k t1 a1 n1 c1 t2 a2 n2 c2 3 asd v11) := ⟨F10.out.below hB⟩
                obtain ⟨x0, x1, x2, x3, x4, x5, x6⟩ := cells7 v11 w.heap.size _ _ _ _ _ _ _ _ F11.out.box
                clear hB F10
                cases k1 with
                | false =>
                  cases asd with
                  | false =>
                    go_wp2_with fail
                    go_ret
                    exact ⟨by rw [has_three.1, has_three.2]; rfl, F11.out.bel⟩
                  | true =>
                    go_wp2_with fail
                    clear x0 x1 x2 x3 x4 x5 x6
                    refine (l9New_any k t1 a1 n1 c1 t2 a2 n2 c2 3 true _).mono ?_
                    rintro e v12 ⟨rfl, hB⟩
                    rewrite [hN3.out]
                    have F12 : Hd (RBox w w.heap.size k t1 a1 n1 c1 t2 a2 n2 c2 3 true v12) := ⟨F11.out.below hB⟩
                    obtain ⟨x0, x1, x2, x3, x4, x5, x6⟩ := cells7 v12 w.heap.size _ _ _ _ _ _ _ _ F12.out.box
                    clear hB F11
                    go_wp2_with fail
                    go_ret
                    exact ⟨by rw [has_three.1, has_three.2]; rfl, F12.out.bel⟩
                | true =>
                  go_wp2_with fail
                  clear x0 x1 x2 x3 x4 x5 x6
                  refine (specSameText_any t1 a1 n1 c1 b1 t2 a2 n2 c2 b2 _ (H1.out.below F11.out.bel) hl1 (H2.out.below F11.out.bel) hl2).mono ?_
                  rintro e v12 ⟨rfl, hB⟩
                  rewrite [HM.out]
                  have F12 : Hd (RBox w w.heap.size k t1 a1 n1 c1 t2 a2 n2 c2 3 asd v12) := ⟨F11.out.below hB⟩
                  obtain ⟨x0, x1, x2, x3, x4, x5, x6⟩ := cells7 v12 w.heap.size _ _ _ _ _ _ _ _ F12.out.box
                  clear hB F11
                  go_wp2_with fail
                  go_ret
                  exact ⟨by rw [has_three.1, has_three.2]; rfl, F12.out.bel⟩

/-- Two slices of bytes, each in new memory, or nil; not the same. -/
structure Apart (w : World) (B : Nat) (a1 : Option Addr) (c1 : Nat) (b1 : List UInt8) (a2 : Option Addr) (c2 : Nat) (b2 : List UInt8) : Prop where
  one : OwnO w B a1 c1 b1
  two : OwnO w B a2 c2 b2
  ne : ∀ q, a1 = some ⟨q, 0, none⟩ → a2 ≠ some ⟨q, 0, none⟩
theorem Apart.below {w w' : World} {B : Nat} {a1 : Option Addr} {c1 : Nat} {b1 : List UInt8} {a2 : Option Addr} {c2 : Nat} {b2 : List UInt8} (h : Apart w B a1 c1 b1 a2 c2 b2) (hB : Below w.heap.size w w') : Apart w' B a1 c1 b1 a2 c2 b2 := ⟨h.one.below hB, h.two.below hB, h.ne⟩
theorem Apart.mono {w : World} {B B' : Nat} {a1 : Option Addr} {c1 : Nat} {b1 : List UInt8} {a2 : Option Addr} {c2 : Nat} {b2 : List UInt8} (h : Apart w B a1 c1 b1 a2 c2 b2) (hb : B' ≤ B) : Apart w B' a1 c1 b1 a2 c2 b2 := ⟨h.one.mono hb, h.two.mono hb, h.ne⟩
theorem Apart.of_set {w : World} {B q j : Nat} {v : Value} {a1 : Option Addr} {c1 : Nat} {b1 : List UInt8} {a2 : Option Addr} {c2 : Nat} {b2 : List UInt8} (h : Apart w B a1 c1 b1 a2 c2 b2) (hq : q < B) : Apart (w.setCell ⟨q, j, none⟩ v) B a1 c1 b1 a2 c2 b2 := ⟨h.one.of_set hq, h.two.of_set hq, h.ne⟩
theorem Apart.of_set7 {w : World} {B q : Nat} {x0 x1 x2 x3 x4 x5 x6 : Value} {a1 : Option Addr} {c1 : Nat} {b1 : List UInt8} {a2 : Option Addr} {c2 : Nat} {b2 : List UInt8} (h : Apart w B a1 c1 b1 a2 c2 b2) (hq : q < B) :
    Apart (((((((w.setCell ⟨q, 0, none⟩ x0).setCell ⟨q, 1, none⟩ x1).setCell ⟨q, 2, none⟩ x2).setCell ⟨q, 3, none⟩ x3).setCell ⟨q, 4, none⟩ x4).setCell ⟨q, 5, none⟩ x5).setCell ⟨q, 6, none⟩ x6) B a1 c1 b1 a2 c2 b2 :=
  ((((((h.of_set hq).of_set hq).of_set hq).of_set hq).of_set hq).of_set hq).of_set hq
/-- A cell of another block, seven writes on. -/
theorem cell_set7 {w : World} {q : Nat} {x0 x1 x2 x3 x4 x5 x6 v : Value} {a : Addr} (h : w.cell? a = some v) (hne : a.block ≠ q) :
    (((((((w.setCell ⟨q, 0, none⟩ x0).setCell ⟨q, 1, none⟩ x1).setCell ⟨q, 2, none⟩ x2).setCell ⟨q, 3, none⟩ x3).setCell ⟨q, 4, none⟩ x4).setCell ⟨q, 5, none⟩ x5).setCell ⟨q, 6, none⟩ x6).cell? a = some v :=
  cell_set (cell_set (cell_set (cell_set (cell_set (cell_set (cell_set h hne) hne) hne) hne) hne) hne) hne
theorem bset7 {B : Nat} {a w : World} {q : Nat} {x0 x1 x2 x3 x4 x5 x6 : Value} (h : Below B a w) (hq : B ≤ q) :
    Below B a (((((((w.setCell ⟨q, 0, none⟩ x0).setCell ⟨q, 1, none⟩ x1).setCell ⟨q, 2, none⟩ x2).setCell ⟨q, 3, none⟩ x3).setCell ⟨q, 4, none⟩ x4).setCell ⟨q, 5, none⟩ x5).setCell ⟨q, 6, none⟩ x6) :=
  bset (bset (bset (bset (bset (bset (bset h _ hq) _ hq) _ hq) _ hq) _ hq) _ hq) _ hq
theorem block_set7 {w : World} {g q : Nat} {x0 x1 x2 x3 x4 x5 x6 : Value} {o : Option Obj} (h : w.heap[g]? = o) (hne : g ≠ q) :
    (((((((w.setCell ⟨q, 0, none⟩ x0).setCell ⟨q, 1, none⟩ x1).setCell ⟨q, 2, none⟩ x2).setCell ⟨q, 3, none⟩ x3).setCell ⟨q, 4, none⟩ x4).setCell ⟨q, 5, none⟩ x5).setCell ⟨q, 6, none⟩ x6).heap[g]? = o :=
  block_set (block_set (block_set (block_set (block_set (block_set (block_set h hne) hne) hne) hne) hne) hne) hne
theorem size_set7 {w : World} {q : Nat} {x0 x1 x2 x3 x4 x5 x6 : Value} :
    (((((((w.setCell ⟨q, 0, none⟩ x0).setCell ⟨q, 1, none⟩ x1).setCell ⟨q, 2, none⟩ x2).setCell ⟨q, 3, none⟩ x3).setCell ⟨q, 4, none⟩ x4).setCell ⟨q, 5, none⟩ x5).setCell ⟨q, 6, none⟩ x6).heap.size = w.heap.size := by simp

/-- A row that is answered: its cells' bytes are new memory, or nil, and not the same. -/
structure RowOut (w : World) (r : RowD) (e : Ending) (w' : World) : Prop where
  out : ∃ a1 n1 c1 a2 n2 c2, e = .returned (.agg #[.string r.key, .int .i64 r.t1, .slice a1 n1 c1, .int .i64 r.t2, .slice a2 n2 c2, .int .i64 r.has, .bool r.aside]) ∧ r.b1.length = n1 ∧ r.b2.length = n2 ∧ Apart w' (w.heap.size + 2) a1 c1 r.b1 a2 c2 r.b2 ∧ w.heap.size + 1 < w'.heap.size ∧ Below w.heap.size w w'

/-- A row's box, and that of the result. -/
structure RTwo (w : World) (k : ByteArray) (t1 : Int) (a1 : Option Addr) (n1 c1 : Nat) (t2 : Int) (a2 : Option Addr) (n2 c2 : Nat) (has : Int) (asd : Bool) (wx : World) : Prop where
  box : wx.heap[w.heap.size]? = some (.cells #[.string k, .int .i64 t1, .slice a1 n1 c1, .int .i64 t2, .slice a2 n2 c2, .int .i64 has, .bool asd] 29 (0, 0))
  res : wx.heap[w.heap.size + 1]? = some (.cells #[.string ⟨#[]⟩, .int .i64 0, .slice none 0 0, .int .i64 0, .slice none 0 0, .int .i64 0, .bool false] 29 (0, 0))
  bel : Below w.heap.size w wx
theorem RTwo.below {w : World} {k : ByteArray} {t1 : Int} {a1 : Option Addr} {n1 c1 : Nat} {t2 : Int} {a2 : Option Addr} {n2 c2 : Nat} {has : Int} {asd : Bool} {wx wy : World} (h : RTwo w k t1 a1 n1 c1 t2 a2 n2 c2 has asd wx) (hB : Below wx.heap.size wx wy) : RTwo w k t1 a1 n1 c1 t2 a2 n2 c2 has asd wy :=
  ⟨(hB.block _ (lt_of_block h.box)).trans h.box, (hB.block _ (lt_of_block h.res)).trans h.res, Below.next h.bel hB⟩
theorem rTwo_new (w : World) (k : ByteArray) (t1 : Int) (a1 : Option Addr) (n1 c1 : Nat) (t2 : Int) (a2 : Option Addr) (n2 c2 : Nat) (has : Int) (asd : Bool) : RTwo w k t1 a1 n1 c1 t2 a2 n2 c2 has asd ((w.alloc (.cells #[.string k, .int .i64 t1, .slice a1 n1 c1, .int .i64 t2, .slice a2 n2 c2, .int .i64 has, .bool asd] 29)).alloc (.cells #[.string ⟨#[]⟩, .int .i64 0, .slice none 0 0, .int .i64 0, .slice none 0 0, .int .i64 0, .bool false] 29)) := ⟨(laid2 w _ _).1, (laid2 w _ _).2, below_lit2 w _ _⟩

/-- A copy of a row that is answered. -/
structure CopyOut (w : World) (k : ByteArray) (t1 : Int) (n1 : Nat) (b1 : List UInt8) (t2 : Int) (n2 : Nat) (b2 : List UInt8) (has : Int) (asd : Bool) (e : Ending) (w' : World) : Prop where
  out : ∃ a1 c1 a2 c2, e = .returned (.agg #[.string k, .int .i64 t1, .slice a1 n1 c1, .int .i64 t2, .slice a2 n2 c2, .int .i64 has, .bool asd]) ∧ Apart w' (w.heap.size + 2) a1 c1 b1 a2 c2 b2 ∧ w.heap.size + 1 < w'.heap.size ∧ Below w.heap.size w w'

/-- The seven cells of a row's box. -/
abbrev Cells7 (d : Nat) (k : ByteArray) (t1 : Int) (a1 : Option Addr) (n1 c1 : Nat) (t2 : Int) (a2 : Option Addr) (n2 c2 : Nat) (has : Int) (asd : Bool) (w' : World) : Prop :=
  w'.cell? ⟨d, 0, none⟩ = some (.string k) ∧ w'.cell? ⟨d, 1, none⟩ = some (.int .i64 t1) ∧ w'.cell? ⟨d, 2, none⟩ = some (.slice a1 n1 c1) ∧ w'.cell? ⟨d, 3, none⟩ = some (.int .i64 t2) ∧ w'.cell? ⟨d, 4, none⟩ = some (.slice a2 n2 c2) ∧ w'.cell? ⟨d, 5, none⟩ = some (.int .i64 has) ∧ w'.cell? ⟨d, 6, none⟩ = some (.bool asd)
theorem Cells7.set7 {d q : Nat} {k : ByteArray} {t1 : Int} {a1 : Option Addr} {n1 c1 : Nat} {t2 : Int} {a2 : Option Addr} {n2 c2 : Nat} {has : Int} {asd : Bool} {w : World} {x0 x1 x2 x3 x4 x5 x6 : Value} (h : Cells7 d k t1 a1 n1 c1 t2 a2 n2 c2 has asd w) (hne : d ≠ q) :
    Cells7 d k t1 a1 n1 c1 t2 a2 n2 c2 has asd (((((((w.setCell ⟨q, 0, none⟩ x0).setCell ⟨q, 1, none⟩ x1).setCell ⟨q, 2, none⟩ x2).setCell ⟨q, 3, none⟩ x3).setCell ⟨q, 4, none⟩ x4).setCell ⟨q, 5, none⟩ x5).setCell ⟨q, 6, none⟩ x6) :=
  ⟨cell_set7 h.1 hne, cell_set7 h.2.1 hne, cell_set7 h.2.2.1 hne, cell_set7 h.2.2.2.1 hne, cell_set7 h.2.2.2.2.1 hne, cell_set7 h.2.2.2.2.2.1 hne, cell_set7 h.2.2.2.2.2.2 hne⟩
theorem cells7_at {d : Nat} {k : ByteArray} {t1 : Int} {a1 : Option Addr} {n1 c1 : Nat} {t2 : Int} {a2 : Option Addr} {n2 c2 : Nat} {has : Int} {asd : Bool} {w : World} {T : TypeId} (h : w.heap[d]? = some (.cells #[.string k, .int .i64 t1, .slice a1 n1 c1, .int .i64 t2, .slice a2 n2 c2, .int .i64 has, .bool asd] T (0, 0))) : Cells7 d k t1 a1 n1 c1 t2 a2 n2 c2 has asd w :=
  cells7 w d _ _ _ _ _ _ _ _ h
theorem apart_of {w : World} {B g1 c1 g2 c2 : Nat} {b1 b2 : List UInt8} (h1 : B ≤ g1) (h2 : g1 < g2) (hO1 : Own w g1 c1 b1) (hO2 : Own w g2 c2 b2) : Apart w B (some ⟨g1, 0, none⟩) c1 b1 (some ⟨g2, 0, none⟩) c2 b2 :=
  ⟨.inr ⟨g1, rfl, h1, hO1⟩, .inr ⟨g2, rfl, by omega, hO2⟩, fun q hq he => by cases hq; cases he; omega⟩
theorem below7 {w v : World} {q : Nat} {x0 x1 x2 x3 x4 x5 x6 : Value} (hB : Below w.heap.size w v) (hq : w.heap.size ≤ q) :
    Below w.heap.size w (((((((v.setCell ⟨q, 0, none⟩ x0).setCell ⟨q, 1, none⟩ x1).setCell ⟨q, 2, none⟩ x2).setCell ⟨q, 3, none⟩ x3).setCell ⟨q, 4, none⟩ x4).setCell ⟨q, 5, none⟩ x5).setCell ⟨q, 6, none⟩ x6) := bset7 hB hq

set_option maxHeartbeats 2000000 in
theorem l9Copy_any (k : ByteArray) (t1 : Int) (a1 : Option Addr) (n1 c1 : Nat) (t2 : Int) (a2 : Option Addr) (n2 c2 : Nat) (has : Int) (asd : Bool) (b1 b2 : List UInt8) (w : World) (h1 : CellAt w a1 n1 c1 b1) (h2 : CellAt w a2 n2 c2 b2) (hl1 : n1 ≤ 1048576) (hl2 : n2 ≤ 1048576) :
    Calls Tryz.prog 53 #[.agg #[.string k, .int .i64 t1, .slice a1 n1 c1, .int .i64 t2, .slice a2 n2 c2, .int .i64 has, .bool asd]] w (CopyOut w k t1 n1 b1 t2 n2 b2 has asd) := by
  have H1 : Hd (CellAt w a1 n1 c1 b1) := ⟨h1⟩
  have H2 : Hd (CellAt w a2 n2 c2 b2) := ⟨h2⟩
  have F0 : Hd (RTwo w k t1 a1 n1 c1 t2 a2 n2 c2 has asd ((w.alloc (.cells #[.string k, .int .i64 t1, .slice a1 n1 c1, .int .i64 t2, .slice a2 n2 c2, .int .i64 has, .bool asd] 29)).alloc (.cells #[.string ⟨#[]⟩, .int .i64 0, .slice none 0 0, .int .i64 0, .slice none 0 0, .int .i64 0, .bool false] 29))) := ⟨rTwo_new w k t1 a1 n1 c1 t2 a2 n2 c2 has asd⟩
  clear h1 h2
  go_enter Tryz.func53, Tryz.ntmps53
  go_wp2_with fail
  generalize (w.alloc (.cells #[.string k, .int .i64 t1, .slice a1 n1 c1, .int .i64 t2, .slice a2 n2 c2, .int .i64 has, .bool asd] 29)).alloc (.cells #[.string ⟨#[]⟩, .int .i64 0, .slice none 0 0, .int .i64 0, .slice none 0 0, .int .i64 0, .bool false] 29) = W at *
  have KK : Hd (∀ w', Below W.heap.size W w' → Cells7 w.heap.size k t1 a1 n1 c1 t2 a2 n2 c2 has asd w') := ⟨fun w' hb => cells7_at (F0.out.below hb).box⟩
  have KD : Hd (Below W.heap.size W W.drew) := ⟨(Below.refl _ W).drew⟩
  have K0 := KK.out _ (Below.refl _ W)
  unfold Cells7 at K0
  obtain ⟨p0, p1, p2, p3, p4, p5, p6⟩ := K0
  go_region_held (fun w' => w'.cell? ⟨w.heap.size, 0, none⟩ = some (.string k) ∧ w'.cell? ⟨w.heap.size, 1, none⟩ = some (.int .i64 t1) ∧ w'.cell? ⟨w.heap.size, 2, none⟩ = some (.slice a1 n1 c1) ∧ w'.cell? ⟨w.heap.size, 3, none⟩ = some (.int .i64 t2) ∧ w'.cell? ⟨w.heap.size, 4, none⟩ = some (.slice a2 n2 c2) ∧ w'.cell? ⟨w.heap.size, 5, none⟩ = some (.int .i64 has) ∧ w'.cell? ⟨w.heap.size, 6, none⟩ = some (.bool asd)) (first | (with_reducible refine Cells7.set7 (KK.out _ D2.out) ?_; omega) | (with_reducible exact KK.out _ D2.out) | (with_reducible exact KK.out _ D1.out) | (with_reducible exact KK.out _ KD.out))
    (first | (have G1 := D1; clear G1; go_at_call 76; refine (l8Copy_o t2 a2 n2 c2 b2 _ (H2.out.below (Below.next F0.out.bel D1.out)) hl2).mono ?_; rintro e v2 ⟨g2, d2, rfl, hg, hO, hB⟩; have D2 : Hd (Below W.heap.size W v2) := ⟨Below.next D1.out hB⟩; have F2 : Hd (RTwo w k t1 a1 n1 c1 t2 a2 n2 c2 has asd v2) := ⟨F0.out.below D2.out⟩; have O2 : Hd (w.heap.size + 2 ≤ g1 ∧ g1 < g2 ∧ Own v2 g1 d1 b1 ∧ Own v2 g2 d2 b2) := ⟨O1.out.1, Nat.lt_of_lt_of_le O1.out.2.lt hg, O1.out.2.below hB, hO⟩; obtain ⟨r0, r1, r2, r3, r4, r5, r6⟩ := cells7 v2 (w.heap.size + 1) _ _ _ _ _ _ _ _ F2.out.res; obtain ⟨s0, s1, s2, s3, s4, s5, s6⟩ := free7 v2 (w.heap.size + 1) _ _ _ _ _ _ _ _ F2.out.res; clear hg hO hB) | (go_at_call 76; refine (l8Copy_o t1 a1 n1 c1 b1 _ (H1.out.below F0.out.bel.drew) hl1).mono ?_; rintro e v1 ⟨g1, d1, rfl, hg, hO, hB⟩; have D1 : Hd (Below W.heap.size W v1) := ⟨Below.next (Below.refl _ W).drew hB⟩; have O1 : Hd (w.heap.size + 2 ≤ g1 ∧ Own v1 g1 d1 b1) := ⟨Nat.le_trans (lt_of_block F0.out.res) hg, hO⟩; clear hg hO hB))
  all_goals
    go_wp2_with fail
    refine bodyPost_ret (results_cell_row rfl _ _ (w.heap.size + 1) _ _ (0, 0) _ rfl (set7 _ _ _ _ _ _ _ F2.out.res) Tryz.underlying29 rfl (by kernel_rfl)) rfl ?_
    exact ⟨_, d1, _, d2, rfl, (apart_of O2.out.1 O2.out.2.1 O2.out.2.2.1 O2.out.2.2.2).of_set7 (by omega), by have := lt_of_block F2.out.res; simp at this ⊢; omega, bset7 F2.out.bel (by omega)⟩

/-- What is carried: both boxes, and the copy in a box d of its own. -/
structure KW (w : World) (k : ByteArray) (t1 : Int) (a1 : Option Addr) (n1 c1 : Nat) (t2 : Int) (a2 : Option Addr) (n2 c2 : Nat) (has : Int) (asd : Bool) (d : Nat) (k' : ByteArray) (t1' : Int) (a1' : Option Addr) (n1' c1' : Nat) (b1' : List UInt8) (t2' : Int) (a2' : Option Addr) (n2' c2' : Nat) (b2' : List UInt8) (has' : Int) (asd' : Bool) (wx : World) : Prop where
  two : RTwo w k t1 a1 n1 c1 t2 a2 n2 c2 has asd wx
  out : wx.heap[d]? = some (.cells #[.string k', .int .i64 t1', .slice a1' n1' c1', .int .i64 t2', .slice a2' n2' c2', .int .i64 has', .bool asd'] 29 (0, 0))
  ap : Apart wx (w.heap.size + 2) a1' c1' b1' a2' c2' b2'
  wd : w.heap.size + 1 < d
  f1 : ∀ q, a1' = some ⟨q, 0, none⟩ → q ≠ d
  f2 : ∀ q, a2' = some ⟨q, 0, none⟩ → q ≠ d
  l1 : b1'.length = n1'
  l2 : b2'.length = n2'
section
variable {w : World} {k : ByteArray} {t1 : Int} {a1 : Option Addr} {n1 c1 : Nat} {t2 : Int} {a2 : Option Addr} {n2 c2 : Nat} {has : Int} {asd : Bool} {d : Nat} {k' : ByteArray} {t1' : Int} {a1' : Option Addr} {n1' c1' : Nat} {b1' : List UInt8} {t2' : Int} {a2' : Option Addr} {n2' c2' : Nat} {b2' : List UInt8} {has' : Int} {asd' : Bool} {wx wy : World}
theorem KW.below (h : KW w k t1 a1 n1 c1 t2 a2 n2 c2 has asd d k' t1' a1' n1' c1' b1' t2' a2' n2' c2' b2' has' asd' wx) (hB : Below wx.heap.size wx wy) : KW w k t1 a1 n1 c1 t2 a2 n2 c2 has asd d k' t1' a1' n1' c1' b1' t2' a2' n2' c2' b2' has' asd' wy :=
  ⟨h.two.below hB, (hB.block _ (lt_of_block h.out)).trans h.out, h.ap.below hB, h.wd, h.f1, h.f2, h.l1, h.l2⟩
theorem ownO_lt {v : World} {B c q : Nat} {ao : Option Addr} {bs : List UInt8} (h : OwnO v B ao c bs) (hq : ao = some ⟨q, 0, none⟩) : q < v.heap.size := by
  rcases h with ⟨rfl, _⟩ | ⟨g, rfl, _, hO⟩
  · cases hq
  · cases hq; exact hO.lt
theorem ownO_ge {v : World} {B c q : Nat} {ao : Option Addr} {bs : List UInt8} (h : OwnO v B ao c bs) (hq : ao = some ⟨q, 0, none⟩) : B ≤ q := by
  rcases h with ⟨rfl, _⟩ | ⟨g, rfl, hb, _⟩
  · cases hq
  · cases hq; exact hb
theorem ownO_far {v : World} {B c q j : Nat} {x : Value} {ao : Option Addr} {bs : List UInt8} (h : OwnO v B ao c bs) (hq : ∀ g, ao = some ⟨g, 0, none⟩ → g ≠ q) : OwnO (v.setCell ⟨q, j, none⟩ x) B ao c bs := by
  rcases h with h | ⟨g, rfl, h1, hO⟩
  · exact .inl h
  · exact .inr ⟨g, rfl, h1, hO.of_block (block_set rfl (hq g rfl))⟩
theorem kw_new (h : RTwo w k t1 a1 n1 c1 t2 a2 n2 c2 has asd wx) (hA : Apart wx (w.heap.size + 2) a1' c1' b1' a2' c2' b2') (hl1 : b1'.length = n1') (hl2 : b2'.length = n2') :
    KW w k t1 a1 n1 c1 t2 a2 n2 c2 has asd wx.heap.size k' t1' a1' n1' c1' b1' t2' a2' n2' c2' b2' has' asd' (wx.alloc (.cells #[.string k', .int .i64 t1', .slice a1' n1' c1', .int .i64 t2', .slice a2' n2' c2', .int .i64 has', .bool asd'] 29)) :=
  ⟨h.below (below_lit wx _), alloc_new wx _ rfl, hA.below (below_lit wx _), lt_of_block h.res, fun q hq => by have := ownO_lt hA.one hq; omega, fun q hq => by have := ownO_lt hA.two hq; omega, hl1, hl2⟩
/-- A cell of the copy's box is written. -/
theorem kw_two (h : KW w k t1 a1 n1 c1 t2 a2 n2 c2 has asd d k' t1' a1' n1' c1' b1' t2' a2' n2' c2' b2' has' asd' wx) (j : Nat) (x : Value) : RTwo w k t1 a1 n1 c1 t2 a2 n2 c2 has asd (wx.setCell ⟨d, j, none⟩ x) :=
  ⟨block_set h.two.box (by have := h.wd; omega), block_set h.two.res (by have := h.wd; omega), bset h.two.bel _ (by have := h.wd; omega)⟩
theorem kw_ap (h : KW w k t1 a1 n1 c1 t2 a2 n2 c2 has asd d k' t1' a1' n1' c1' b1' t2' a2' n2' c2' b2' has' asd' wx) (j : Nat) (x : Value) : Apart (wx.setCell ⟨d, j, none⟩ x) (w.heap.size + 2) a1' c1' b1' a2' c2' b2' :=
  ⟨ownO_far h.ap.one h.f1, ownO_far h.ap.two h.f2, h.ap.ne⟩
theorem KW.setAside (h : KW w k t1 a1 n1 c1 t2 a2 n2 c2 has asd d k' t1' a1' n1' c1' b1' t2' a2' n2' c2' b2' has' asd' wx) (b : Bool) : KW w k t1 a1 n1 c1 t2 a2 n2 c2 has asd d k' t1' a1' n1' c1' b1' t2' a2' n2' c2' b2' has' b (wx.setCell ⟨d, 6, none⟩ (.bool b)) :=
  ⟨kw_two h _ _, by rw [set_at _ h.out]; simp, kw_ap h _ _, h.wd, h.f1, h.f2, h.l1, h.l2⟩
theorem KW.setHas (h : KW w k t1 a1 n1 c1 t2 a2 n2 c2 has asd d k' t1' a1' n1' c1' b1' t2' a2' n2' c2' b2' has' asd' wx) (z : Int) : KW w k t1 a1 n1 c1 t2 a2 n2 c2 has asd d k' t1' a1' n1' c1' b1' t2' a2' n2' c2' b2' z asd' (wx.setCell ⟨d, 5, none⟩ (.int .i64 z)) :=
  ⟨kw_two h _ _, by rw [set_at _ h.out]; simp, kw_ap h _ _, h.wd, h.f1, h.f2, h.l1, h.l2⟩
theorem KW.setT1 (h : KW w k t1 a1 n1 c1 t2 a2 n2 c2 has asd d k' t1' a1' n1' c1' b1' t2' a2' n2' c2' b2' has' asd' wx) (z : Int) : KW w k t1 a1 n1 c1 t2 a2 n2 c2 has asd d k' z a1' n1' c1' b1' t2' a2' n2' c2' b2' has' asd' (wx.setCell ⟨d, 1, none⟩ (.int .i64 z)) :=
  ⟨kw_two h _ _, by rw [set_at _ h.out]; simp, kw_ap h _ _, h.wd, h.f1, h.f2, h.l1, h.l2⟩
theorem KW.setT2 (h : KW w k t1 a1 n1 c1 t2 a2 n2 c2 has asd d k' t1' a1' n1' c1' b1' t2' a2' n2' c2' b2' has' asd' wx) (z : Int) : KW w k t1 a1 n1 c1 t2 a2 n2 c2 has asd d k' t1' a1' n1' c1' b1' z a2' n2' c2' b2' has' asd' (wx.setCell ⟨d, 3, none⟩ (.int .i64 z)) :=
  ⟨kw_two h _ _, by rw [set_at _ h.out]; simp, kw_ap h _ _, h.wd, h.f1, h.f2, h.l1, h.l2⟩
theorem KW.setB1 (h : KW w k t1 a1 n1 c1 t2 a2 n2 c2 has asd d k' t1' a1' n1' c1' b1' t2' a2' n2' c2' b2' has' asd' wx) {ao : Option Addr} {n c : Nat} {bs : List UInt8} (hO : OwnO wx (w.heap.size + 2) ao c bs) (hn : bs.length = n) (hf : ∀ q, ao = some ⟨q, 0, none⟩ → q ≠ d) (hne : ∀ q, ao = some ⟨q, 0, none⟩ → a2' ≠ some ⟨q, 0, none⟩) :
    KW w k t1 a1 n1 c1 t2 a2 n2 c2 has asd d k' t1' ao n c bs t2' a2' n2' c2' b2' has' asd' (wx.setCell ⟨d, 2, none⟩ (.slice ao n c)) :=
  ⟨kw_two h _ _, by rw [set_at _ h.out]; simp, ⟨ownO_far hO hf, (kw_ap h _ _).two, hne⟩, h.wd, hf, h.f2, hn, h.l2⟩
theorem KW.setB2 (h : KW w k t1 a1 n1 c1 t2 a2 n2 c2 has asd d k' t1' a1' n1' c1' b1' t2' a2' n2' c2' b2' has' asd' wx) {ao : Option Addr} {n c : Nat} {bs : List UInt8} (hO : OwnO wx (w.heap.size + 2) ao c bs) (hn : bs.length = n) (hf : ∀ q, ao = some ⟨q, 0, none⟩ → q ≠ d) (hne : ∀ q, a1' = some ⟨q, 0, none⟩ → ao ≠ some ⟨q, 0, none⟩) :
    KW w k t1 a1 n1 c1 t2 a2 n2 c2 has asd d k' t1' a1' n1' c1' b1' t2' ao n c bs has' asd' (wx.setCell ⟨d, 4, none⟩ (.slice ao n c)) :=
  ⟨kw_two h _ _, by rw [set_at _ h.out]; simp, ⟨(kw_ap h _ _).one, ownO_far hO hf, hne⟩, h.wd, h.f1, hf, h.l1, hn⟩
theorem KW.noOld (h : KW w k t1 a1 n1 c1 t2 a2 n2 c2 has asd d k' t1' a1' n1' c1' b1' t2' a2' n2' c2' b2' has' asd' wx) : KW w k t1 a1 n1 c1 t2 a2 n2 c2 has asd d k' 0 none 0 0 [] t2' a2' n2' c2' b2' has' asd' ((wx.setCell ⟨d, 1, none⟩ (.int .i64 0)).setCell ⟨d, 2, none⟩ (.slice none 0 0)) :=
  (h.setT1 0).setB1 (.inl ⟨rfl, rfl, rfl⟩) rfl (fun q hq => by cases hq) (fun q hq => by cases hq)
theorem KW.noNew (h : KW w k t1 a1 n1 c1 t2 a2 n2 c2 has asd d k' t1' a1' n1' c1' b1' t2' a2' n2' c2' b2' has' asd' wx) : KW w k t1 a1 n1 c1 t2 a2 n2 c2 has asd d k' t1' a1' n1' c1' b1' 0 none 0 0 [] has' asd' ((wx.setCell ⟨d, 3, none⟩ (.int .i64 0)).setCell ⟨d, 4, none⟩ (.slice none 0 0)) :=
  (h.setT2 0).setB2 (.inl ⟨rfl, rfl, rfl⟩) rfl (fun q hq => by cases hq) (fun q hq h2 => by cases h2)
/-- The result's box is filled: a row is handed back. -/
theorem rowOut_of (h : RTwo w k t1 a1 n1 c1 t2 a2 n2 c2 has asd wx) (hA : Apart wx (w.heap.size + 2) a1' c1' b1' a2' c2' b2') (hl1 : b1'.length = n1') (hl2 : b2'.length = n2') :
    RowOut w ⟨k', t1', b1', t2', b2', has', asd'⟩ (.returned (.agg #[.string k', .int .i64 t1', .slice a1' n1' c1', .int .i64 t2', .slice a2' n2' c2', .int .i64 has', .bool asd']))
      (((((((wx.setCell ⟨w.heap.size + 1, 0, none⟩ (.string k')).setCell ⟨w.heap.size + 1, 1, none⟩ (.int .i64 t1')).setCell ⟨w.heap.size + 1, 2, none⟩ (.slice a1' n1' c1')).setCell ⟨w.heap.size + 1, 3, none⟩ (.int .i64 t2')).setCell ⟨w.heap.size + 1, 4, none⟩ (.slice a2' n2' c2')).setCell ⟨w.heap.size + 1, 5, none⟩ (.int .i64 has')).setCell ⟨w.heap.size + 1, 6, none⟩ (.bool asd')) :=
  ⟨a1', n1', c1', a2', n2', c2', rfl, hl1, hl2, hA.of_set7 (by omega), by have := lt_of_block h.res; simp at this ⊢; omega, bset7 h.bel (by omega)⟩
theorem KW.done (h : KW w k t1 a1 n1 c1 t2 a2 n2 c2 has asd d k' t1' a1' n1' c1' b1' t2' a2' n2' c2' b2' has' asd' wx) :
    RowOut w ⟨k', t1', b1', t2', b2', has', asd'⟩ (.returned (.agg #[.string k', .int .i64 t1', .slice a1' n1' c1', .int .i64 t2', .slice a2' n2' c2', .int .i64 has', .bool asd']))
      (((((((wx.setCell ⟨w.heap.size + 1, 0, none⟩ (.string k')).setCell ⟨w.heap.size + 1, 1, none⟩ (.int .i64 t1')).setCell ⟨w.heap.size + 1, 2, none⟩ (.slice a1' n1' c1')).setCell ⟨w.heap.size + 1, 3, none⟩ (.int .i64 t2')).setCell ⟨w.heap.size + 1, 4, none⟩ (.slice a2' n2' c2')).setCell ⟨w.heap.size + 1, 5, none⟩ (.int .i64 has')).setCell ⟨w.heap.size + 1, 6, none⟩ (.bool asd')) := rowOut_of h.two h.ap h.l1 h.l2
end

set_option maxHeartbeats 4000000 in
theorem specFillRow_any (k : ByteArray) (t1 : Int) (a1 : Option Addr) (n1 c1 : Nat) (t2 : Int) (a2 : Option Addr) (n2 c2 : Nat) (has : Int) (asd : Bool) (b1 b2 : List UInt8) (w : World) (hk : k.size ≤ 1048576) (h1 : CellAt w a1 n1 c1 b1) (h2 : CellAt w a2 n2 c2 b2) (hl1 : n1 ≤ 1048576) (hl2 : n2 ≤ 1048576) :
    Calls Tryz.prog 22 #[.agg #[.string k, .int .i64 t1, .slice a1 n1 c1, .int .i64 t2, .slice a2 n2 c2, .int .i64 has, .bool asd]] w (RowOut w (fillR ⟨k, t1, b1, t2, b2, has, asd⟩)) := by
  have H1 : Hd (CellAt w a1 n1 c1 b1) := ⟨h1⟩
  have H2 : Hd (CellAt w a2 n2 c2 b2) := ⟨h2⟩
  have HN1 : Hd (b1.length = n1) := ⟨h1.size⟩
  have HN2 : Hd (b2.length = n2) := ⟨h2.size⟩
  have F0 : Hd (RTwo w k t1 a1 n1 c1 t2 a2 n2 c2 has asd ((w.alloc (.cells #[.string k, .int .i64 t1, .slice a1 n1 c1, .int .i64 t2, .slice a2 n2 c2, .int .i64 has, .bool asd] 29)).alloc (.cells #[.string ⟨#[]⟩, .int .i64 0, .slice none 0 0, .int .i64 0, .slice none 0 0, .int .i64 0, .bool false] 29))) := ⟨rTwo_new w k t1 a1 n1 c1 t2 a2 n2 c2 has asd⟩
  obtain ⟨ok, hok⟩ : ∃ x, rOk ⟨k, t1, b1, t2, b2, has, asd⟩ = x := ⟨_, rfl⟩
  have HOK : Hd (rOk ⟨k, t1, b1, t2, b2, has, asd⟩ = ok) := ⟨hok⟩
  obtain ⟨nw, hnw⟩ : ∃ x, newB has = x := ⟨_, rfl⟩
  have HNW : Hd (newB has = nw) := ⟨hnw⟩
  have EA : Hd (ok = false ∨ nw = true → fillR ⟨k, t1, b1, t2, b2, has, asd⟩ = ⟨k, t1, b1, t2, b2, has, asd⟩) := ⟨fun h => if_pos (h.imp (fun e => hok.trans e) (fun e => hnw.trans e))⟩
  have EB : Hd (ok = true → nw = false → fillR ⟨k, t1, b1, t2, b2, has, asd⟩ = (if nOk t1 b1 0 = true then (⟨k, t1, b1, 0, nB t1 b1 0, 3, asd⟩ : RowD) else ⟨k, t1, b1, t2, b2, has, true⟩)) := ⟨fun e1 e2 => if_neg (fun h => h.elim (fun h => by rw [hok, e1] at h; cases h) (fun h => by have h : newB has = true := h; rw [hnw, e2] at h; cases h))⟩
  obtain ⟨tg, hT⟩ : ∃ x, nTag t1 b1 0 = x := ⟨_, rfl⟩
  have HT : Hd (nTag t1 b1 0 = tg) := ⟨hT⟩
  obtain ⟨ys, hys⟩ : ∃ x, nB t1 b1 0 = x := ⟨_, rfl⟩
  have HY : Hd (nB t1 b1 0 = ys) := ⟨hys⟩
  obtain ⟨tk, htk⟩ : ∃ x, nOk t1 b1 0 = x := ⟨_, rfl⟩
  have HTK : Hd (nOk t1 b1 0 = tk) := ⟨htk⟩
  have HT0 : Hd (tk = true → tg = 0) := ⟨fun e => by rw [← hT]; exact (nOk_t (htk.trans e)).2.2.1⟩
  clear hT hys htk
  clear h1 h2 hok hnw
  go_enter Tryz.func22, Tryz.ntmps22
  go_wp2_with fail
  refine (l9Copy_any k t1 a1 n1 c1 t2 a2 n2 c2 has asd b1 b2 _ (H1.out.below F0.out.bel) (H2.out.below F0.out.bel) hl1 hl2).mono ?_
  rintro e v1 ⟨x1, y1, x2, y2, rfl, hA, _, hB⟩
  have W1 : Hd (KW w k t1 a1 n1 c1 t2 a2 n2 c2 has asd v1.heap.size k t1 x1 n1 y1 b1 t2 x2 n2 y2 b2 has asd (v1.alloc (.cells #[.string k, .int .i64 t1, .slice x1 n1 y1, .int .i64 t2, .slice x2 n2 y2, .int .i64 has, .bool asd] 29))) := ⟨kw_new (F0.out.below hB) (hA.mono (by simp)) HN1.out HN2.out⟩
  obtain ⟨p0, p1, p2, p3, p4, p5, p6⟩ := cells7 _ w.heap.size _ _ _ _ _ _ _ _ W1.out.two.box
  generalize hd : v1.heap.size = d at *
  clear hA hB F0
  go_wp2_with fail
  generalize hw : (v1.alloc (.cells #[.string k, .int .i64 t1, .slice x1 n1 y1, .int .i64 t2, .slice x2 n2 y2, .int .i64 has, .bool asd] 29)) = V1 at *
  clear hd hw
  refine (specRowOk_any k t1 a1 n1 c1 t2 a2 n2 c2 has asd b1 b2 _ hk (H1.out.below W1.out.two.bel) (H2.out.below W1.out.two.bel) hl1 hl2).mono ?_
  rintro e v2 ⟨rfl, hB⟩
  rewrite [HOK.out]
  have W2 : Hd (KW w k t1 a1 n1 c1 t2 a2 n2 c2 has asd d k t1 x1 n1 y1 b1 t2 x2 n2 y2 b2 has asd v2) := ⟨W1.out.below hB⟩
  clear hB p0 p1 p2 p3 p4 p5 p6 W1
  cases ok with
  | false =>
    obtain ⟨q0, q1, q2, q3, q4, q5, q6⟩ := cells7 _ d _ _ _ _ _ _ _ _ W2.out.out
    obtain ⟨u0, u1, u2, u3, u4, u5, u6⟩ := free7 _ d _ _ _ _ _ _ _ _ W2.out.out
    obtain ⟨r0, r1, r2, r3, r4, r5, r6⟩ := cells7 _ (w.heap.size + 1) _ _ _ _ _ _ _ _ W2.out.two.res
    obtain ⟨s0, s1, s2, s3, s4, s5, s6⟩ := free7 _ (w.heap.size + 1) _ _ _ _ _ _ _ _ W2.out.two.res
    have hd1 : ¬ w.heap.size + 1 = d := by have := W2.out.wd; omega
    have hd2 : ¬ d = w.heap.size + 1 := by have := W2.out.wd; omega
    have hd3 : ¬ w.heap.size = d := by have := W2.out.wd; omega
    go_wp2_with fail
    refine bodyPost_ret (results_cell_row rfl _ _ (w.heap.size + 1) _ _ (0, 0) _ rfl (set7 _ _ _ _ _ _ _ W2.out.two.res) Tryz.underlying29 rfl (by kernel_rfl)) rfl ?_
    rw [EA.out (by simp)]
    exact W2.out.done
  | true =>
    obtain ⟨p0, p1, p2, p3, p4, p5, p6⟩ := cells7 _ w.heap.size _ _ _ _ _ _ _ _ W2.out.two.box
    go_wp2_with fail
    refine (l9New_any k t1 a1 n1 c1 t2 a2 n2 c2 has asd _).mono ?_
    rintro e v3 ⟨rfl, hB⟩
    rewrite [HNW.out]
    have W3 : Hd (KW w k t1 a1 n1 c1 t2 a2 n2 c2 has asd d k t1 x1 n1 y1 b1 t2 x2 n2 y2 b2 has asd v3) := ⟨W2.out.below hB⟩
    clear hB p0 p1 p2 p3 p4 p5 p6 W2
    cases nw with
    | true =>
      obtain ⟨q0, q1, q2, q3, q4, q5, q6⟩ := cells7 _ d _ _ _ _ _ _ _ _ W3.out.out
      obtain ⟨u0, u1, u2, u3, u4, u5, u6⟩ := free7 _ d _ _ _ _ _ _ _ _ W3.out.out
      obtain ⟨r0, r1, r2, r3, r4, r5, r6⟩ := cells7 _ (w.heap.size + 1) _ _ _ _ _ _ _ _ W3.out.two.res
      obtain ⟨s0, s1, s2, s3, s4, s5, s6⟩ := free7 _ (w.heap.size + 1) _ _ _ _ _ _ _ _ W3.out.two.res
      have hd1 : ¬ w.heap.size + 1 = d := by have := W3.out.wd; omega
      have hd2 : ¬ d = w.heap.size + 1 := by have := W3.out.wd; omega
      have hd3 : ¬ w.heap.size = d := by have := W3.out.wd; omega
      go_wp2_with fail
      refine bodyPost_ret (results_cell_row rfl _ _ (w.heap.size + 1) _ _ (0, 0) _ rfl (set7 _ _ _ _ _ _ _ W3.out.two.res) Tryz.underlying29 rfl (by kernel_rfl)) rfl ?_
      rw [EA.out (by simp)]
      exact W3.out.done
    | false =>
      obtain ⟨p0, p1, p2, p3, p4, p5, p6⟩ := cells7 _ w.heap.size _ _ _ _ _ _ _ _ W3.out.two.box
      go_wp2_with fail
      refine (specTurn_any t1 a1 n1 c1 b1 0 _ (H1.out.below W3.out.two.bel) hl1).mono ?_
      rewrite [HT.out, HY.out, HTK.out]
      rintro e v4 ⟨ao, n4, c4, rfl, hn4, hO4, _, hB⟩
      have W4 : Hd (KW w k t1 a1 n1 c1 t2 a2 n2 c2 has asd d k t1 x1 n1 y1 b1 t2 x2 n2 y2 b2 has asd (v4.alloc (.cells #[.int .i64 tg, .slice ao n4 c4] 27))) := ⟨(W3.out.below hB).below (below_lit v4 _)⟩
      have O4 : Hd (OwnO (v4.alloc (.cells #[.int .i64 tg, .slice ao n4 c4] 27)) (w.heap.size + 2) ao c4 ys) := ⟨(hO4.below (below_lit v4 _)).mono (by have := lt_of_block W3.out.two.res; omega)⟩
      have N4 : Hd (ys.length = n4) := ⟨hn4⟩
      have X4 : Hd (∀ q, ao = some ⟨q, 0, none⟩ → q ≠ d) := ⟨fun q hq => by have := ownO_ge hO4 hq; have := lt_of_block W3.out.out; omega⟩
      have Y4 : Hd (∀ q, x1 = some ⟨q, 0, none⟩ → ao ≠ some ⟨q, 0, none⟩) := ⟨fun q hq h4 => by have := ownO_ge hO4 h4; have := ownO_lt W3.out.ap.one hq; omega⟩
      obtain ⟨j0, j1, _, _⟩ := cells2 (v4.alloc (.cells #[.int .i64 tg, .slice ao n4 c4] 27)) v4.heap.size _ _ _ (alloc_new v4 _ rfl)
      have hd4 : ¬ d = v4.heap.size := by have := lt_of_block W3.out.out; have := hB.size; omega
      have hd5 : ¬ v4.heap.size = d := fun h => hd4 h.symm
      have hd6 : ¬ w.heap.size + 1 = v4.heap.size := by have := lt_of_block W3.out.two.res; have := hB.size; omega
      generalize hv : v4.heap.size = d4 at *
      clear hB hO4 hn4 p0 p1 p2 p3 p4 p5 p6 W3
      cases tk with
      | false =>
        have hf := EB.out (by simp) (by simp)
        rewrite [if_neg (by rw [HTK.out]; simp)] at hf
        have HF : Hd _ := ⟨hf⟩
        clear hf
        obtain ⟨q0, q1, q2, q3, q4, q5, q6⟩ := cells7 _ d _ _ _ _ _ _ _ _ W4.out.out
        obtain ⟨u0, u1, u2, u3, u4, u5, u6⟩ := free7 _ d _ _ _ _ _ _ _ _ W4.out.out
        obtain ⟨r0, r1, r2, r3, r4, r5, r6⟩ := cells7 _ (w.heap.size + 1) _ _ _ _ _ _ _ _ W4.out.two.res
        obtain ⟨s0, s1, s2, s3, s4, s5, s6⟩ := free7 _ (w.heap.size + 1) _ _ _ _ _ _ _ _ W4.out.two.res
        have hd1 : ¬ w.heap.size + 1 = d := by have := W4.out.wd; omega
        have hd2 : ¬ d = w.heap.size + 1 := by have := W4.out.wd; omega
        have hd3 : ¬ w.heap.size = d := by have := W4.out.wd; omega
        have W5 : Hd (KW w k t1 a1 n1 c1 t2 a2 n2 c2 has asd d k t1 x1 n1 y1 b1 t2 x2 n2 y2 b2 has true ((v4.alloc (.cells #[.int .i64 tg, .slice ao n4 c4] 27)).setCell ⟨d, 6, none⟩ (.bool true))) := ⟨W4.out.setAside true⟩
        go_wp2_with fail
        refine bodyPost_ret (results_cell_row rfl _ _ (w.heap.size + 1) _ _ (0, 0) _ rfl (set7 _ _ _ _ _ _ _ W5.out.two.res) Tryz.underlying29 rfl (by kernel_rfl)) rfl ?_
        rw [HF.out]
        exact W5.out.done
      | true =>
        have hf := EB.out (by simp) (by simp)
        rewrite [if_pos HTK.out, HY.out] at hf
        have HF : Hd _ := ⟨hf⟩
        have hT0 := HT0.out rfl
        subst hT0
        clear hf
        obtain ⟨q0, q1, q2, q3, q4, q5, q6⟩ := cells7 _ d _ _ _ _ _ _ _ _ W4.out.out
        obtain ⟨u0, u1, u2, u3, u4, u5, u6⟩ := free7 _ d _ _ _ _ _ _ _ _ W4.out.out
        obtain ⟨r0, r1, r2, r3, r4, r5, r6⟩ := cells7 _ (w.heap.size + 1) _ _ _ _ _ _ _ _ W4.out.two.res
        obtain ⟨s0, s1, s2, s3, s4, s5, s6⟩ := free7 _ (w.heap.size + 1) _ _ _ _ _ _ _ _ W4.out.two.res
        have hd1 : ¬ w.heap.size + 1 = d := by have := W4.out.wd; omega
        have hd2 : ¬ d = w.heap.size + 1 := by have := W4.out.wd; omega
        have hd3 : ¬ w.heap.size = d := by have := W4.out.wd; omega
        have W5 : Hd (KW w k t1 a1 n1 c1 t2 a2 n2 c2 has asd d k t1 x1 n1 y1 b1 0 ao n4 c4 ys 3 asd ((((v4.alloc (.cells #[.int .i64 0, .slice ao n4 c4] 27)).setCell ⟨d, 3, none⟩ (.int .i64 0)).setCell ⟨d, 4, none⟩ (.slice ao n4 c4)).setCell ⟨d, 5, none⟩ (.int .i64 3))) := ⟨((W4.out.setT2 0).setB2 (ownO_far O4.out X4.out) N4.out X4.out Y4.out).setHas 3⟩
        go_wp2_with fail
        refine bodyPost_ret (results_cell_row rfl _ _ (w.heap.size + 1) _ _ (0, 0) _ rfl (set7 _ _ _ _ _ _ _ W5.out.two.res) Tryz.underlying29 rfl (by kernel_rfl)) rfl ?_
        rw [HF.out]
        exact W5.out.done

set_option maxHeartbeats 4000000 in
theorem specCutRow_any (k : ByteArray) (t1 : Int) (a1 : Option Addr) (n1 c1 : Nat) (t2 : Int) (a2 : Option Addr) (n2 c2 : Nat) (has : Int) (asd : Bool) (b1 b2 : List UInt8) (w : World) (hk : k.size ≤ 1048576) (h1 : CellAt w a1 n1 c1 b1) (h2 : CellAt w a2 n2 c2 b2) (hl1 : n1 ≤ 1048576) (hl2 : n2 ≤ 1048576) :
    Calls Tryz.prog 23 #[.agg #[.string k, .int .i64 t1, .slice a1 n1 c1, .int .i64 t2, .slice a2 n2 c2, .int .i64 has, .bool asd]] w (RowOut w (cutR ⟨k, t1, b1, t2, b2, has, asd⟩)) := by
  have H1 : Hd (CellAt w a1 n1 c1 b1) := ⟨h1⟩
  have H2 : Hd (CellAt w a2 n2 c2 b2) := ⟨h2⟩
  have HN1 : Hd (b1.length = n1) := ⟨h1.size⟩
  have HN2 : Hd (b2.length = n2) := ⟨h2.size⟩
  have F0 : Hd (RTwo w k t1 a1 n1 c1 t2 a2 n2 c2 has asd ((w.alloc (.cells #[.string k, .int .i64 t1, .slice a1 n1 c1, .int .i64 t2, .slice a2 n2 c2, .int .i64 has, .bool asd] 29)).alloc (.cells #[.string ⟨#[]⟩, .int .i64 0, .slice none 0 0, .int .i64 0, .slice none 0 0, .int .i64 0, .bool false] 29))) := ⟨rTwo_new w k t1 a1 n1 c1 t2 a2 n2 c2 has asd⟩
  obtain ⟨ok, hok⟩ : ∃ x, rOk ⟨k, t1, b1, t2, b2, has, asd⟩ = x := ⟨_, rfl⟩
  have HOK : Hd (rOk ⟨k, t1, b1, t2, b2, has, asd⟩ = ok) := ⟨hok⟩
  obtain ⟨nw, hnw⟩ : ∃ x, newB has = x := ⟨_, rfl⟩
  have HNW : Hd (newB has = nw) := ⟨hnw⟩
  have EA : Hd (ok = false ∨ nw = false → cutR ⟨k, t1, b1, t2, b2, has, asd⟩ = ⟨k, t1, b1, t2, b2, has, asd⟩) := ⟨fun h => if_pos (h.imp (fun e => hok.trans e) (fun e => hnw.trans e))⟩
  have EB : Hd (ok = true → nw = true → cutR ⟨k, t1, b1, t2, b2, has, asd⟩ = ⟨k, 0, [], t2, b2, 2, false⟩) := ⟨fun e1 e2 => if_neg (fun h => h.elim (fun h => by rw [hok, e1] at h; cases h) (fun h => by have h : newB has = false := h; rw [hnw, e2] at h; cases h))⟩
  
  clear h1 h2 hok hnw
  go_enter Tryz.func23, Tryz.ntmps23
  go_wp2_with fail
  refine (l9Copy_any k t1 a1 n1 c1 t2 a2 n2 c2 has asd b1 b2 _ (H1.out.below F0.out.bel) (H2.out.below F0.out.bel) hl1 hl2).mono ?_
  rintro e v1 ⟨x1, y1, x2, y2, rfl, hA, _, hB⟩
  have W1 : Hd (KW w k t1 a1 n1 c1 t2 a2 n2 c2 has asd v1.heap.size k t1 x1 n1 y1 b1 t2 x2 n2 y2 b2 has asd (v1.alloc (.cells #[.string k, .int .i64 t1, .slice x1 n1 y1, .int .i64 t2, .slice x2 n2 y2, .int .i64 has, .bool asd] 29))) := ⟨kw_new (F0.out.below hB) (hA.mono (by simp)) HN1.out HN2.out⟩
  obtain ⟨p0, p1, p2, p3, p4, p5, p6⟩ := cells7 _ w.heap.size _ _ _ _ _ _ _ _ W1.out.two.box
  generalize hd : v1.heap.size = d at *
  clear hA hB F0
  go_wp2_with fail
  generalize hw : (v1.alloc (.cells #[.string k, .int .i64 t1, .slice x1 n1 y1, .int .i64 t2, .slice x2 n2 y2, .int .i64 has, .bool asd] 29)) = V1 at *
  clear hd hw
  refine (specRowOk_any k t1 a1 n1 c1 t2 a2 n2 c2 has asd b1 b2 _ hk (H1.out.below W1.out.two.bel) (H2.out.below W1.out.two.bel) hl1 hl2).mono ?_
  rintro e v2 ⟨rfl, hB⟩
  rewrite [HOK.out]
  have W2 : Hd (KW w k t1 a1 n1 c1 t2 a2 n2 c2 has asd d k t1 x1 n1 y1 b1 t2 x2 n2 y2 b2 has asd v2) := ⟨W1.out.below hB⟩
  clear hB p0 p1 p2 p3 p4 p5 p6 W1
  cases ok with
  | false =>
    obtain ⟨q0, q1, q2, q3, q4, q5, q6⟩ := cells7 _ d _ _ _ _ _ _ _ _ W2.out.out
    obtain ⟨u0, u1, u2, u3, u4, u5, u6⟩ := free7 _ d _ _ _ _ _ _ _ _ W2.out.out
    obtain ⟨r0, r1, r2, r3, r4, r5, r6⟩ := cells7 _ (w.heap.size + 1) _ _ _ _ _ _ _ _ W2.out.two.res
    obtain ⟨s0, s1, s2, s3, s4, s5, s6⟩ := free7 _ (w.heap.size + 1) _ _ _ _ _ _ _ _ W2.out.two.res
    have hd1 : ¬ w.heap.size + 1 = d := by have := W2.out.wd; omega
    have hd2 : ¬ d = w.heap.size + 1 := by have := W2.out.wd; omega
    have hd3 : ¬ w.heap.size = d := by have := W2.out.wd; omega
    go_wp2_with fail
    refine bodyPost_ret (results_cell_row rfl _ _ (w.heap.size + 1) _ _ (0, 0) _ rfl (set7 _ _ _ _ _ _ _ W2.out.two.res) Tryz.underlying29 rfl (by kernel_rfl)) rfl ?_
    rw [EA.out (by simp)]
    exact W2.out.done
  | true =>
    obtain ⟨p0, p1, p2, p3, p4, p5, p6⟩ := cells7 _ w.heap.size _ _ _ _ _ _ _ _ W2.out.two.box
    go_wp2_with fail
    refine (l9New_any k t1 a1 n1 c1 t2 a2 n2 c2 has asd _).mono ?_
    rintro e v3 ⟨rfl, hB⟩
    rewrite [HNW.out]
    have W3 : Hd (KW w k t1 a1 n1 c1 t2 a2 n2 c2 has asd d k t1 x1 n1 y1 b1 t2 x2 n2 y2 b2 has asd v3) := ⟨W2.out.below hB⟩
    clear hB p0 p1 p2 p3 p4 p5 p6 W2
    cases nw with
    | false =>
      obtain ⟨q0, q1, q2, q3, q4, q5, q6⟩ := cells7 _ d _ _ _ _ _ _ _ _ W3.out.out
      obtain ⟨u0, u1, u2, u3, u4, u5, u6⟩ := free7 _ d _ _ _ _ _ _ _ _ W3.out.out
      obtain ⟨r0, r1, r2, r3, r4, r5, r6⟩ := cells7 _ (w.heap.size + 1) _ _ _ _ _ _ _ _ W3.out.two.res
      obtain ⟨s0, s1, s2, s3, s4, s5, s6⟩ := free7 _ (w.heap.size + 1) _ _ _ _ _ _ _ _ W3.out.two.res
      have hd1 : ¬ w.heap.size + 1 = d := by have := W3.out.wd; omega
      have hd2 : ¬ d = w.heap.size + 1 := by have := W3.out.wd; omega
      have hd3 : ¬ w.heap.size = d := by have := W3.out.wd; omega
      go_wp2_with fail
      refine bodyPost_ret (results_cell_row rfl _ _ (w.heap.size + 1) _ _ (0, 0) _ rfl (set7 _ _ _ _ _ _ _ W3.out.two.res) Tryz.underlying29 rfl (by kernel_rfl)) rfl ?_
      rw [EA.out (by simp)]
      exact W3.out.done
    | true =>
      obtain ⟨q0, q1, q2, q3, q4, q5, q6⟩ := cells7 _ d _ _ _ _ _ _ _ _ W3.out.out
      obtain ⟨u0, u1, u2, u3, u4, u5, u6⟩ := free7 _ d _ _ _ _ _ _ _ _ W3.out.out
      obtain ⟨r0, r1, r2, r3, r4, r5, r6⟩ := cells7 _ (w.heap.size + 1) _ _ _ _ _ _ _ _ W3.out.two.res
      obtain ⟨s0, s1, s2, s3, s4, s5, s6⟩ := free7 _ (w.heap.size + 1) _ _ _ _ _ _ _ _ W3.out.two.res
      obtain ⟨p0, p1, p2, p3, p4, p5, p6⟩ := cells7 _ w.heap.size _ _ _ _ _ _ _ _ W3.out.two.box
      have hd1 : ¬ w.heap.size + 1 = d := by have := W3.out.wd; omega
      have hd2 : ¬ d = w.heap.size + 1 := by have := W3.out.wd; omega
      have hd3 : ¬ w.heap.size = d := by have := W3.out.wd; omega
      go_wp2_with fail
      refine bodyPost_ret (results_cell_row rfl _ _ (w.heap.size + 1) _ _ (0, 0) _ rfl (set7 _ _ _ _ _ _ _ W3.out.two.res) Tryz.underlying29 rfl (by kernel_rfl)) rfl ?_
      rw [EB.out (by simp) (by simp)]
      exact rowOut_of W3.out.two ⟨.inl ⟨rfl, rfl, rfl⟩, W3.out.ap.two, fun q hq => by cases hq⟩ rfl W3.out.l2

set_option maxHeartbeats 4000000 in
theorem specBackRow_any (k : ByteArray) (t1 : Int) (a1 : Option Addr) (n1 c1 : Nat) (t2 : Int) (a2 : Option Addr) (n2 c2 : Nat) (has : Int) (asd : Bool) (b1 b2 : List UInt8) (w : World) (hk : k.size ≤ 1048576) (h1 : CellAt w a1 n1 c1 b1) (h2 : CellAt w a2 n2 c2 b2) (hl1 : n1 ≤ 1048576) (hl2 : n2 ≤ 1048576) :
    Calls Tryz.prog 24 #[.agg #[.string k, .int .i64 t1, .slice a1 n1 c1, .int .i64 t2, .slice a2 n2 c2, .int .i64 has, .bool asd]] w (RowOut w (backR ⟨k, t1, b1, t2, b2, has, asd⟩)) := by
  have H1 : Hd (CellAt w a1 n1 c1 b1) := ⟨h1⟩
  have H2 : Hd (CellAt w a2 n2 c2 b2) := ⟨h2⟩
  have HN1 : Hd (b1.length = n1) := ⟨h1.size⟩
  have HN2 : Hd (b2.length = n2) := ⟨h2.size⟩
  have F0 : Hd (RTwo w k t1 a1 n1 c1 t2 a2 n2 c2 has asd ((w.alloc (.cells #[.string k, .int .i64 t1, .slice a1 n1 c1, .int .i64 t2, .slice a2 n2 c2, .int .i64 has, .bool asd] 29)).alloc (.cells #[.string ⟨#[]⟩, .int .i64 0, .slice none 0 0, .int .i64 0, .slice none 0 0, .int .i64 0, .bool false] 29))) := ⟨rTwo_new w k t1 a1 n1 c1 t2 a2 n2 c2 has asd⟩
  obtain ⟨ok, hok⟩ : ∃ x, rOk ⟨k, t1, b1, t2, b2, has, asd⟩ = x := ⟨_, rfl⟩
  have HOK : Hd (rOk ⟨k, t1, b1, t2, b2, has, asd⟩ = ok) := ⟨hok⟩
  obtain ⟨nw, hnw⟩ : ∃ x, newB has = x := ⟨_, rfl⟩
  have HNW : Hd (newB has = nw) := ⟨hnw⟩
  have EA : Hd (ok = false ∨ nw = false → backR ⟨k, t1, b1, t2, b2, has, asd⟩ = ⟨k, t1, b1, t2, b2, has, asd⟩) := ⟨fun h => if_pos (h.imp (fun e => hok.trans e) (fun e => hnw.trans e))⟩
  have EB : Hd (ok = true → nw = true → oldB has = true → backR ⟨k, t1, b1, t2, b2, has, asd⟩ = ⟨k, t1, b1, 0, [], 1, false⟩) := ⟨fun e1 e2 e3 => (if_neg (fun h => h.elim (fun h => by rw [hok, e1] at h; cases h) (fun h => by have h : newB has = false := h; rw [hnw, e2] at h; cases h))).trans (if_pos e3)⟩
  have EC : Hd (ok = true → nw = true → oldB has = false → backR ⟨k, t1, b1, t2, b2, has, asd⟩ = ⟨k, t1, b1, t2, b2, has, true⟩) := ⟨fun e1 e2 e3 => (if_neg (fun h => h.elim (fun h => by rw [hok, e1] at h; cases h) (fun h => by have h : newB has = false := h; rw [hnw, e2] at h; cases h))).trans (if_neg (by show ¬ oldB has = true; rw [e3]; simp))⟩
  obtain ⟨od, hod⟩ : ∃ x, oldB has = x := ⟨_, rfl⟩
  have HOD : Hd (oldB has = od) := ⟨hod⟩
  clear hod
  clear h1 h2 hok hnw
  go_enter Tryz.func24, Tryz.ntmps24
  go_wp2_with fail
  refine (l9Copy_any k t1 a1 n1 c1 t2 a2 n2 c2 has asd b1 b2 _ (H1.out.below F0.out.bel) (H2.out.below F0.out.bel) hl1 hl2).mono ?_
  rintro e v1 ⟨x1, y1, x2, y2, rfl, hA, _, hB⟩
  have W1 : Hd (KW w k t1 a1 n1 c1 t2 a2 n2 c2 has asd v1.heap.size k t1 x1 n1 y1 b1 t2 x2 n2 y2 b2 has asd (v1.alloc (.cells #[.string k, .int .i64 t1, .slice x1 n1 y1, .int .i64 t2, .slice x2 n2 y2, .int .i64 has, .bool asd] 29))) := ⟨kw_new (F0.out.below hB) (hA.mono (by simp)) HN1.out HN2.out⟩
  obtain ⟨p0, p1, p2, p3, p4, p5, p6⟩ := cells7 _ w.heap.size _ _ _ _ _ _ _ _ W1.out.two.box
  generalize hd : v1.heap.size = d at *
  clear hA hB F0
  go_wp2_with fail
  generalize hw : (v1.alloc (.cells #[.string k, .int .i64 t1, .slice x1 n1 y1, .int .i64 t2, .slice x2 n2 y2, .int .i64 has, .bool asd] 29)) = V1 at *
  clear hd hw
  refine (specRowOk_any k t1 a1 n1 c1 t2 a2 n2 c2 has asd b1 b2 _ hk (H1.out.below W1.out.two.bel) (H2.out.below W1.out.two.bel) hl1 hl2).mono ?_
  rintro e v2 ⟨rfl, hB⟩
  rewrite [HOK.out]
  have W2 : Hd (KW w k t1 a1 n1 c1 t2 a2 n2 c2 has asd d k t1 x1 n1 y1 b1 t2 x2 n2 y2 b2 has asd v2) := ⟨W1.out.below hB⟩
  clear hB p0 p1 p2 p3 p4 p5 p6 W1
  cases ok with
  | false =>
    obtain ⟨q0, q1, q2, q3, q4, q5, q6⟩ := cells7 _ d _ _ _ _ _ _ _ _ W2.out.out
    obtain ⟨u0, u1, u2, u3, u4, u5, u6⟩ := free7 _ d _ _ _ _ _ _ _ _ W2.out.out
    obtain ⟨r0, r1, r2, r3, r4, r5, r6⟩ := cells7 _ (w.heap.size + 1) _ _ _ _ _ _ _ _ W2.out.two.res
    obtain ⟨s0, s1, s2, s3, s4, s5, s6⟩ := free7 _ (w.heap.size + 1) _ _ _ _ _ _ _ _ W2.out.two.res
    have hd1 : ¬ w.heap.size + 1 = d := by have := W2.out.wd; omega
    have hd2 : ¬ d = w.heap.size + 1 := by have := W2.out.wd; omega
    have hd3 : ¬ w.heap.size = d := by have := W2.out.wd; omega
    go_wp2_with fail
    refine bodyPost_ret (results_cell_row rfl _ _ (w.heap.size + 1) _ _ (0, 0) _ rfl (set7 _ _ _ _ _ _ _ W2.out.two.res) Tryz.underlying29 rfl (by kernel_rfl)) rfl ?_
    rw [EA.out (by simp)]
    exact W2.out.done
  | true =>
    obtain ⟨p0, p1, p2, p3, p4, p5, p6⟩ := cells7 _ w.heap.size _ _ _ _ _ _ _ _ W2.out.two.box
    go_wp2_with fail
    refine (l9New_any k t1 a1 n1 c1 t2 a2 n2 c2 has asd _).mono ?_
    rintro e v3 ⟨rfl, hB⟩
    rewrite [HNW.out]
    have W3 : Hd (KW w k t1 a1 n1 c1 t2 a2 n2 c2 has asd d k t1 x1 n1 y1 b1 t2 x2 n2 y2 b2 has asd v3) := ⟨W2.out.below hB⟩
    clear hB p0 p1 p2 p3 p4 p5 p6 W2
    cases nw with
    | false =>
      obtain ⟨q0, q1, q2, q3, q4, q5, q6⟩ := cells7 _ d _ _ _ _ _ _ _ _ W3.out.out
      obtain ⟨u0, u1, u2, u3, u4, u5, u6⟩ := free7 _ d _ _ _ _ _ _ _ _ W3.out.out
      obtain ⟨r0, r1, r2, r3, r4, r5, r6⟩ := cells7 _ (w.heap.size + 1) _ _ _ _ _ _ _ _ W3.out.two.res
      obtain ⟨s0, s1, s2, s3, s4, s5, s6⟩ := free7 _ (w.heap.size + 1) _ _ _ _ _ _ _ _ W3.out.two.res
      have hd1 : ¬ w.heap.size + 1 = d := by have := W3.out.wd; omega
      have hd2 : ¬ d = w.heap.size + 1 := by have := W3.out.wd; omega
      have hd3 : ¬ w.heap.size = d := by have := W3.out.wd; omega
      go_wp2_with fail
      refine bodyPost_ret (results_cell_row rfl _ _ (w.heap.size + 1) _ _ (0, 0) _ rfl (set7 _ _ _ _ _ _ _ W3.out.two.res) Tryz.underlying29 rfl (by kernel_rfl)) rfl ?_
      rw [EA.out (by simp)]
      exact W3.out.done
    | true =>
      obtain ⟨p0, p1, p2, p3, p4, p5, p6⟩ := cells7 _ w.heap.size _ _ _ _ _ _ _ _ W3.out.two.box
      go_wp2_with fail
      refine (l9Old_any k t1 a1 n1 c1 t2 a2 n2 c2 has asd _).mono ?_
      rintro e v4 ⟨rfl, hB⟩
      rewrite [HOD.out]
      have W4 : Hd (KW w k t1 a1 n1 c1 t2 a2 n2 c2 has asd d k t1 x1 n1 y1 b1 t2 x2 n2 y2 b2 has asd v4) := ⟨W3.out.below hB⟩
      clear hB p0 p1 p2 p3 p4 p5 p6 W3
      cases od with
      | true =>
        obtain ⟨q0, q1, q2, q3, q4, q5, q6⟩ := cells7 _ d _ _ _ _ _ _ _ _ W4.out.out
        obtain ⟨u0, u1, u2, u3, u4, u5, u6⟩ := free7 _ d _ _ _ _ _ _ _ _ W4.out.out
        obtain ⟨r0, r1, r2, r3, r4, r5, r6⟩ := cells7 _ (w.heap.size + 1) _ _ _ _ _ _ _ _ W4.out.two.res
        obtain ⟨s0, s1, s2, s3, s4, s5, s6⟩ := free7 _ (w.heap.size + 1) _ _ _ _ _ _ _ _ W4.out.two.res
        obtain ⟨p0, p1, p2, p3, p4, p5, p6⟩ := cells7 _ w.heap.size _ _ _ _ _ _ _ _ W4.out.two.box
        have hd1 : ¬ w.heap.size + 1 = d := by have := W4.out.wd; omega
        have hd2 : ¬ d = w.heap.size + 1 := by have := W4.out.wd; omega
        have hd3 : ¬ w.heap.size = d := by have := W4.out.wd; omega
        go_wp2_with fail
        refine bodyPost_ret (results_cell_row rfl _ _ (w.heap.size + 1) _ _ (0, 0) _ rfl (set7 _ _ _ _ _ _ _ W4.out.two.res) Tryz.underlying29 rfl (by kernel_rfl)) rfl ?_
        rw [EB.out (by simp) (by simp) HOD.out]
        exact rowOut_of W4.out.two ⟨W4.out.ap.one, .inl ⟨rfl, rfl, rfl⟩, fun q hq h2 => by cases h2⟩ W4.out.l1 rfl
      | false =>
        obtain ⟨q0, q1, q2, q3, q4, q5, q6⟩ := cells7 _ d _ _ _ _ _ _ _ _ W4.out.out
        obtain ⟨u0, u1, u2, u3, u4, u5, u6⟩ := free7 _ d _ _ _ _ _ _ _ _ W4.out.out
        obtain ⟨r0, r1, r2, r3, r4, r5, r6⟩ := cells7 _ (w.heap.size + 1) _ _ _ _ _ _ _ _ W4.out.two.res
        obtain ⟨s0, s1, s2, s3, s4, s5, s6⟩ := free7 _ (w.heap.size + 1) _ _ _ _ _ _ _ _ W4.out.two.res
        have hd1 : ¬ w.heap.size + 1 = d := by have := W4.out.wd; omega
        have hd2 : ¬ d = w.heap.size + 1 := by have := W4.out.wd; omega
        have hd3 : ¬ w.heap.size = d := by have := W4.out.wd; omega
        have W5 : Hd (KW w k t1 a1 n1 c1 t2 a2 n2 c2 has asd d k t1 x1 n1 y1 b1 t2 x2 n2 y2 b2 has true (v4.setCell ⟨d, 6, none⟩ (.bool true))) := ⟨W4.out.setAside true⟩
        go_wp2_with fail
        refine bodyPost_ret (results_cell_row rfl _ _ (w.heap.size + 1) _ _ (0, 0) _ rfl (set7 _ _ _ _ _ _ _ W5.out.two.res) Tryz.underlying29 rfl (by kernel_rfl)) rfl ?_
        rw [EC.out (by simp) (by simp) HOD.out]
        exact W5.out.done

theorem rowV_f {p : Int} {k : ByteArray} {cs : Int} {s : List UInt8} (h : formB p k cs s = false) : rowV p k cs s = ⟨⟨#[]⟩, 0, [], 0, [], 0, false⟩ ∧ rowC p k cs s = 1 := by
  unfold rowV rowC
  rw [h]
  exact ⟨rfl, rfl⟩
section
variable {p : Int} {k : ByteArray} {cs : Int} {s xo xu : List UInt8}
theorem formB_p (h : p < 0 ∨ p > 7) : formB p k cs s = false := by
  unfold formB
  rw [show inB p 0 7 = false from decide_eq_false (by omega)]; rfl
theorem rowV_unfit (h : formB p k cs s = true) (hp : p = 0 ∨ p = 7) (ho : oOk cs s = false) : rowV p k cs s = ⟨⟨#[]⟩, 0, [], 0, [], 0, false⟩ ∧ rowC p k cs s = 3 := by
  unfold rowV rowC
  rw [h, ho]
  simp [hp, zeroRow]
theorem rowV_old (h : formB p k cs s = true) (hp : p = 0 ∨ p = 6 ∨ p = 7) (ho : oOk cs s = true) (hx : encS cs s = xo) : rowV p k cs s = ⟨k, cs, xo, 0, [], 1, false⟩ ∧ rowC p k cs s = 0 := by
  unfold rowV rowC
  rw [h, ho]
  rcases hp with rfl | rfl | rfl <;> simp [oldRow, hx]
theorem rowV_new (h : formB p k cs s = true) (hp : p = 4 ∨ p = 5) (hx : encS 0 s = xu) : rowV p k cs s = ⟨k, 0, [], 0, xu, 2, false⟩ ∧ rowC p k cs s = 0 := by
  unfold rowV rowC
  rw [h]
  rcases hp with rfl | rfl <;> simp [newRow, hx]
theorem rowV_aside (h : formB p k cs s = true) (hp : p = 1 ∨ p = 2 ∨ p = 3 ∨ p = 6) (ho : oOk cs s = false) (hx : encS 0 s = xu) : rowV p k cs s = ⟨k, 0, [], 0, xu, 2, true⟩ ∧ rowC p k cs s = 0 := by
  unfold rowV rowC
  rw [h, ho]
  rcases hp with rfl | rfl | rfl | rfl <;> simp [newRow, hx]
theorem rowV_both (h : formB p k cs s = true) (hp : p = 1 ∨ p = 2 ∨ p = 3) (ho : oOk cs s = true) (hx : encS cs s = xo) (hu : encS 0 s = xu) : rowV p k cs s = ⟨k, cs, xo, 0, xu, 3, false⟩ ∧ rowC p k cs s = 0 := by
  unfold rowV rowC
  rw [h, ho]
  rcases hp with rfl | rfl | rfl <;> simp [bothRow, hx, hu]
end

/-- A row that is answered, with a code. -/
structure RowTup (w : World) (r : RowD) (c : Int) (e : Ending) (w' : World) : Prop where
  out : ∃ a1 n1 c1 a2 n2 c2, e = .returned (.tuple #[.agg #[.string r.key, .int .i64 r.t1, .slice a1 n1 c1, .int .i64 r.t2, .slice a2 n2 c2, .int .i64 r.has, .bool r.aside], .int .i64 c]) ∧ r.b1.length = n1 ∧ r.b2.length = n2 ∧ Apart w' (w.heap.size + 2) a1 c1 r.b1 a2 c2 r.b2 ∧ w.heap.size + 1 < w'.heap.size ∧ Below w.heap.size w w'

/-- The result's box and the cell of today's signs. -/
structure UCell (w : World) (d : Nat) (t : Int) (ao : Option Addr) (n c : Nat) (bs : List UInt8) (wx : World) : Prop where
  res : wx.heap[w.heap.size]? = some (.cells #[.string ⟨#[]⟩, .int .i64 0, .slice none 0 0, .int .i64 0, .slice none 0 0, .int .i64 0, .bool false] 29 (0, 0))
  bel : Below w.heap.size w wx
  sz : w.heap.size + 1 < wx.heap.size
  box : wx.heap[d]? = some (.cells #[.int .i64 t, .slice ao n c] 27 (0, 0))
  own : OwnO wx (w.heap.size + 2) ao c bs
  len : bs.length = n
  wd : w.heap.size < d
section
variable {w : World} {d : Nat} {t : Int} {ao : Option Addr} {n c : Nat} {bs : List UInt8} {wx wy : World}
theorem UCell.below (h : UCell w d t ao n c bs wx) (hB : Below wx.heap.size wx wy) : UCell w d t ao n c bs wy :=
  ⟨(hB.block _ (lt_of_block h.res)).trans h.res, Below.next h.bel hB, Nat.lt_of_lt_of_le h.sz hB.size, (hB.block _ (lt_of_block h.box)).trans h.box, h.own.below hB, h.len, h.wd⟩
theorem uCell_new {v1 : World} (hn : bs.length = n) (hO : OwnO v1 ((w.alloc (.cells #[.string ⟨#[]⟩, .int .i64 0, .slice none 0 0, .int .i64 0, .slice none 0 0, .int .i64 0, .bool false] 29)).heap.size + 1) ao c bs) (hs : (w.alloc (.cells #[.string ⟨#[]⟩, .int .i64 0, .slice none 0 0, .int .i64 0, .slice none 0 0, .int .i64 0, .bool false] 29)).heap.size < v1.heap.size) (hB : Below (w.alloc (.cells #[.string ⟨#[]⟩, .int .i64 0, .slice none 0 0, .int .i64 0, .slice none 0 0, .int .i64 0, .bool false] 29)).heap.size (w.alloc (.cells #[.string ⟨#[]⟩, .int .i64 0, .slice none 0 0, .int .i64 0, .slice none 0 0, .int .i64 0, .bool false] 29)) v1) :
    UCell w v1.heap.size t ao n c bs (v1.alloc (.cells #[.int .i64 t, .slice ao n c] 27)) := by
  have hr : v1.heap[w.heap.size]? = some (.cells #[.string ⟨#[]⟩, .int .i64 0, .slice none 0 0, .int .i64 0, .slice none 0 0, .int .i64 0, .bool false] 29 (0, 0)) := (hB.block w.heap.size (by simp)).trans (heap_alloc_new w _)
  have hb : Below w.heap.size w v1 := Below.next (below_lit w _) hB
  simp at hs hO
  exact ⟨((below_lit v1 _).block _ (lt_of_block hr)).trans hr, Below.next hb (below_lit v1 _), by simp; omega, alloc_new v1 _ rfl, (hO.below (below_lit v1 _)).mono (by omega), hn, by omega⟩
/-- And the cell of the old signs. -/
structure OCell (w : World) (d : Nat) (t : Int) (ao : Option Addr) (n c : Nat) (bs : List UInt8) (d' : Nat) (t' : Int) (ao' : Option Addr) (n' c' : Nat) (bs' : List UInt8) (wx : World) : Prop where
  res : wx.heap[w.heap.size]? = some (.cells #[.string ⟨#[]⟩, .int .i64 0, .slice none 0 0, .int .i64 0, .slice none 0 0, .int .i64 0, .bool false] 29 (0, 0))
  bel : Below w.heap.size w wx
  sz : w.heap.size + 1 < wx.heap.size
  box1 : wx.heap[d]? = some (.cells #[.int .i64 t, .slice ao n c] 27 (0, 0))
  own1 : OwnO wx (w.heap.size + 2) ao c bs
  len1 : bs.length = n
  wd : w.heap.size < d
  box2 : wx.heap[d']? = some (.cells #[.int .i64 t', .slice ao' n' c'] 27 (0, 0))
  own2 : OwnO wx (w.heap.size + 2) ao' c' bs'
  len2 : bs'.length = n'
  dd : d < d'
  ne : ∀ q, ao' = some ⟨q, 0, none⟩ → ao ≠ some ⟨q, 0, none⟩
theorem oCell_new {t' : Int} {ao' : Option Addr} {n' c' : Nat} {bs' : List UInt8} {v : World} (h : UCell w d t ao n c bs wx) (hn : bs'.length = n') (hO : OwnO v (wx.heap.size + 1) ao' c' bs') (hB : Below wx.heap.size wx v) :
    OCell w d t ao n c bs v.heap.size t' ao' n' c' bs' (v.alloc (.cells #[.int .i64 t', .slice ao' n' c'] 27)) := by
  have h2 := h.below hB
  have h3 := h2.below (below_lit v (.cells #[.int .i64 t', .slice ao' n' c'] 27))
  exact ⟨h3.res, h3.bel, h3.sz, h3.box, h3.own, h3.len, h3.wd, alloc_new v _ rfl, (hO.below (below_lit v _)).mono (by have := h.sz; omega), hn, lt_of_block h2.box, fun q hq h4 => by have := ownO_ge hO hq; have := ownO_lt h.own h4; omega⟩
/-- The result's box is filled: a row and a code are handed back. -/
theorem rowTup_of {k' : ByteArray} {t1' : Int} {a1' : Option Addr} {n1' c1' : Nat} {b1' : List UInt8} {t2' : Int} {a2' : Option Addr} {n2' c2' : Nat} {b2' : List UInt8} {has' : Int} {asd' : Bool}
    (hB : Below w.heap.size w wx) (hs : w.heap.size + 1 < wx.heap.size) (hA : Apart wx (w.heap.size + 2) a1' c1' b1' a2' c2' b2') (hl1 : b1'.length = n1') (hl2 : b2'.length = n2') (code : Int) :
    RowTup w ⟨k', t1', b1', t2', b2', has', asd'⟩ code (.returned (.tuple #[.agg #[.string k', .int .i64 t1', .slice a1' n1' c1', .int .i64 t2', .slice a2' n2' c2', .int .i64 has', .bool asd'], .int .i64 code]))
      (((((((wx.setCell ⟨w.heap.size, 0, none⟩ (.string k')).setCell ⟨w.heap.size, 1, none⟩ (.int .i64 t1')).setCell ⟨w.heap.size, 2, none⟩ (.slice a1' n1' c1')).setCell ⟨w.heap.size, 3, none⟩ (.int .i64 t2')).setCell ⟨w.heap.size, 4, none⟩ (.slice a2' n2' c2')).setCell ⟨w.heap.size, 5, none⟩ (.int .i64 has')).setCell ⟨w.heap.size, 6, none⟩ (.bool asd')) :=
  ⟨a1', n1', c1', a2', n2', c2', rfl, hl1, hl2, hA.of_set7 (by omega), by simp; omega, bset7 hB (Nat.le_refl _)⟩
end

set_option maxHeartbeats 4000000 in
theorem specRowOf_any (p : Int) (k : ByteArray) (cs : Int) (s : ByteArray) (w : World) (hk : k.size ≤ 1048576) (hs : s.size ≤ 1048576) :
    Calls Tryz.prog 8 #[.int .i64 p, .string k, .int .i64 cs, .string s] w (RowTup w (rowV p k cs s.data.toList) (rowC p k cs s.data.toList)) := by
  generalize ht : s.data.toList = t
  have Ht : Hd (s.data.toList = t) := ⟨ht⟩
  clear ht
  obtain ⟨ip, h9⟩ : ∃ x, inB p 0 7 = x := ⟨_, rfl⟩
  have HIP : Hd (inB p 0 7 = ip) := ⟨h9⟩
  clear h9
  obtain ⟨nk, h9⟩ : ∃ x, nameOkB k = x := ⟨_, rfl⟩
  have HNK : Hd (nameOkB k = nk) := ⟨h9⟩
  clear h9
  obtain ⟨ic, h9⟩ : ∃ x, inB cs 1 5 = x := ⟨_, rfl⟩
  have HIC : Hd (inB cs 1 5 = ic) := ⟨h9⟩
  clear h9
  obtain ⟨ou, h9⟩ : ∃ x, oOk 0 t = x := ⟨_, rfl⟩
  have HOU : Hd (oOk 0 t = ou) := ⟨h9⟩
  clear h9
  obtain ⟨oo, h9⟩ : ∃ x, oOk cs t = x := ⟨_, rfl⟩
  have HOO : Hd (oOk cs t = oo) := ⟨h9⟩
  clear h9
  obtain ⟨xu, h9⟩ : ∃ x, oB 0 t = x := ⟨_, rfl⟩
  have HXU : Hd (oB 0 t = xu) := ⟨h9⟩
  clear h9
  obtain ⟨xo, h9⟩ : ∃ x, oB cs t = x := ⟨_, rfl⟩
  have HXO : Hd (oB cs t = xo) := ⟨h9⟩
  clear h9
  obtain ⟨gu, h9⟩ : ∃ x, oTag 0 t = x := ⟨_, rfl⟩
  have HGU : Hd (oTag 0 t = gu) := ⟨h9⟩
  clear h9
  obtain ⟨go, h9⟩ : ∃ x, oTag cs t = x := ⟨_, rfl⟩
  have HGO : Hd (oTag cs t = go) := ⟨h9⟩
  clear h9
  have EU : Hd (ou = true → gu = 0 ∧ encS 0 t = xu) := ⟨fun e => by obtain ⟨_, _, e1, e2⟩ := oOk_t (HOU.out.trans e); exact ⟨HGU.out.symm.trans e1, e2.symm.trans HXU.out⟩⟩
  have EO : Hd (oo = true → go = cs ∧ encS cs t = xo) := ⟨fun e => by obtain ⟨_, _, e1, e2⟩ := oOk_t (HOO.out.trans e); exact ⟨HGO.out.symm.trans e1, e2.symm.trans HXO.out⟩⟩
  go_enter Tryz.func8, Tryz.ntmps8
  go_wp2_with fail
  refine (specCellOf_any 0 s _ hs).mono ?_
  rewrite [Ht.out, HOU.out, HXU.out, HGU.out]
  rintro e v1 ⟨au, nu, cu, rfl, hn, hO, hsz, hB⟩
  have U1 : Hd (UCell w v1.heap.size gu au nu cu xu (v1.alloc (.cells #[.int .i64 gu, .slice au nu cu] 27))) := ⟨uCell_new hn hO hsz hB⟩
  generalize hd : v1.heap.size = d1 at *
  clear hn hO hsz hB
  go_wp2_with fail
  generalize hw : (v1.alloc (.cells #[.int .i64 gu, .slice au nu cu] 27)) = V1 at *
  clear hd hw
  refine (l1In_any p 0 7 _).mono ?_
  rintro e v2 ⟨rfl, hw⟩
  replace hw := same_below hw
  rewrite [HIP.out]
  have U2 : Hd (UCell w d1 gu au nu cu xu v2) := ⟨U1.out.below hw⟩
  clear hw U1
  cases ip with
  | false =>
    obtain ⟨r0, r1, r2, r3, r4, r5, r6⟩ := cells7 _ w.heap.size _ _ _ _ _ _ _ _ U2.out.res
    obtain ⟨s0, s1, s2, s3, s4, s5, s6⟩ := free7 _ w.heap.size _ _ _ _ _ _ _ _ U2.out.res
    go_wp2_with fail
    refine bodyPost_ret (results_row_tmp rfl _ _ w.heap.size _ _ (0, 0) _ rfl (set7 _ _ _ _ _ _ _ U2.out.res) Tryz.underlying29 rfl (by kernel_rfl)) rfl ?_
    rw [(rowV_f (p := p) (k := k) (cs := cs) (s := t) (by unfold formB; rw [HIP.out]; simp)).1, (rowV_f (p := p) (k := k) (cs := cs) (s := t) (by unfold formB; rw [HIP.out]; simp)).2]
    exact rowTup_of U2.out.bel U2.out.sz ⟨.inl ⟨rfl, rfl, rfl⟩, .inl ⟨rfl, rfl, rfl⟩, fun q hq => by cases hq⟩ rfl rfl 1
  | true =>
    go_wp2_with fail
    refine (specNameOk_any k _ hk).mono ?_
    rintro e v3 ⟨rfl, hw⟩
    replace hw := same_below hw
    rewrite [HNK.out]
    have U3 : Hd (UCell w d1 gu au nu cu xu v3) := ⟨U2.out.below hw⟩
    clear hw U2
    cases nk with
    | false =>
      obtain ⟨r0, r1, r2, r3, r4, r5, r6⟩ := cells7 _ w.heap.size _ _ _ _ _ _ _ _ U3.out.res
      obtain ⟨s0, s1, s2, s3, s4, s5, s6⟩ := free7 _ w.heap.size _ _ _ _ _ _ _ _ U3.out.res
      go_wp2_with fail
      refine bodyPost_ret (results_row_tmp rfl _ _ w.heap.size _ _ (0, 0) _ rfl (set7 _ _ _ _ _ _ _ U3.out.res) Tryz.underlying29 rfl (by kernel_rfl)) rfl ?_
      rw [(rowV_f (p := p) (k := k) (cs := cs) (s := t) (by unfold formB; rw [HNK.out]; simp)).1, (rowV_f (p := p) (k := k) (cs := cs) (s := t) (by unfold formB; rw [HNK.out]; simp)).2]
      exact rowTup_of U3.out.bel U3.out.sz ⟨.inl ⟨rfl, rfl, rfl⟩, .inl ⟨rfl, rfl, rfl⟩, fun q hq => by cases hq⟩ rfl rfl 1
    | true =>
      go_wp2_with fail
      refine (l1In_any cs 1 5 _).mono ?_
      rintro e v4 ⟨rfl, hw⟩
      replace hw := same_below hw
      rewrite [HIC.out]
      have U4 : Hd (UCell w d1 gu au nu cu xu v4) := ⟨U3.out.below hw⟩
      clear hw U3
      cases ic with
      | false =>
        obtain ⟨r0, r1, r2, r3, r4, r5, r6⟩ := cells7 _ w.heap.size _ _ _ _ _ _ _ _ U4.out.res
        obtain ⟨s0, s1, s2, s3, s4, s5, s6⟩ := free7 _ w.heap.size _ _ _ _ _ _ _ _ U4.out.res
        go_wp2_with fail
        refine bodyPost_ret (results_row_tmp rfl _ _ w.heap.size _ _ (0, 0) _ rfl (set7 _ _ _ _ _ _ _ U4.out.res) Tryz.underlying29 rfl (by kernel_rfl)) rfl ?_
        rw [(rowV_f (p := p) (k := k) (cs := cs) (s := t) (by unfold formB; rw [HIC.out]; simp)).1, (rowV_f (p := p) (k := k) (cs := cs) (s := t) (by unfold formB; rw [HIC.out]; simp)).2]
        exact rowTup_of U4.out.bel U4.out.sz ⟨.inl ⟨rfl, rfl, rfl⟩, .inl ⟨rfl, rfl, rfl⟩, fun q hq => by cases hq⟩ rfl rfl 1
      | true =>
        cases ou with
        | false =>
          obtain ⟨r0, r1, r2, r3, r4, r5, r6⟩ := cells7 _ w.heap.size _ _ _ _ _ _ _ _ U4.out.res
          obtain ⟨s0, s1, s2, s3, s4, s5, s6⟩ := free7 _ w.heap.size _ _ _ _ _ _ _ _ U4.out.res
          go_wp2_with fail
          refine bodyPost_ret (results_row_tmp rfl _ _ w.heap.size _ _ (0, 0) _ rfl (set7 _ _ _ _ _ _ _ U4.out.res) Tryz.underlying29 rfl (by kernel_rfl)) rfl ?_
          rw [(rowV_f (p := p) (k := k) (cs := cs) (s := t) (by unfold formB; rw [HOU.out]; simp)).1, (rowV_f (p := p) (k := k) (cs := cs) (s := t) (by unfold formB; rw [HOU.out]; simp)).2]
          exact rowTup_of U4.out.bel U4.out.sz ⟨.inl ⟨rfl, rfl, rfl⟩, .inl ⟨rfl, rfl, rfl⟩, fun q hq => by cases hq⟩ rfl rfl 1
        | true =>
          obtain ⟨hg0, hxu⟩ : gu = 0 ∧ encS 0 t = xu := by simpa using EU.out
          subst hg0
          have HU : Hd (encS 0 t = xu) := ⟨hxu⟩
          clear hxu
          have HF : Hd (formB p k cs t = true) := ⟨by unfold formB; rw [HIP.out, HNK.out, HIC.out, HOU.out]; rfl⟩
          go_wp2_with fail
          refine (specCellOf_any cs s _ hs).mono ?_
          rewrite [Ht.out, HOO.out, HXO.out, HGO.out]
          rintro e v5 ⟨a5, n5, c5, rfl, hn, hO, hsz, hB⟩
          have U5 : Hd (OCell w d1 0 au nu cu xu v5.heap.size go a5 n5 c5 xo (v5.alloc (.cells #[.int .i64 go, .slice a5 n5 c5] 27))) := ⟨oCell_new U4.out hn hO hB⟩
          generalize hd5 : v5.heap.size = d5 at *
          clear hn hO hsz hB U4
          have hp : p = 0 ∨ p = 1 ∨ p = 2 ∨ p = 3 ∨ p = 4 ∨ p = 5 ∨ p = 6 ∨ p = 7 := by have h9 := HIP.out; unfold inB at h9; rw [decide_eq_true_iff] at h9; omega
          have n1 : ¬ d1 = d5 := by have := U5.out.dd; omega
          have n2 : ¬ d5 = d1 := fun h => n1 h.symm
          have n3 : ¬ w.heap.size = d1 := by have := U5.out.wd; omega
          have n4 : ¬ w.heap.size = d5 := by have := U5.out.wd; have := U5.out.dd; omega
          obtain ⟨r0, r1, r2, r3, r4, r5, r6⟩ := cells7 _ w.heap.size _ _ _ _ _ _ _ _ U5.out.res
          obtain ⟨s0, s1, s2, s3, s4, s5, s6⟩ := free7 _ w.heap.size _ _ _ _ _ _ _ _ U5.out.res
          obtain ⟨k0, k1, _, _⟩ := cells2 _ d1 _ _ _ U5.out.box1
          obtain ⟨j0, j1, _, _⟩ := cells2 _ d5 _ _ _ U5.out.box2
          rcases hp with rfl | rfl | rfl | rfl | rfl | rfl | rfl | rfl
          · cases oo with
            | false =>
              go_wp2_with fail
              refine bodyPost_ret (results_row_tmp rfl _ _ w.heap.size _ _ (0, 0) _ rfl (set7 _ _ _ _ _ _ _ U5.out.res) Tryz.underlying29 rfl (by kernel_rfl)) rfl ?_
              rw [(rowV_unfit HF.out (by omega) HOO.out).1, (rowV_unfit HF.out (by omega) HOO.out).2]
              exact rowTup_of U5.out.bel U5.out.sz ⟨.inl ⟨rfl, rfl, rfl⟩, .inl ⟨rfl, rfl, rfl⟩, fun q hq => by cases hq⟩ rfl rfl 3
            | true =>
              obtain ⟨ho0, hxo⟩ : go = cs ∧ encS cs t = xo := by simpa using EO.out
              subst ho0
              have HXX : Hd (encS _ t = xo) := ⟨hxo⟩
              clear hxo
              go_wp2_with fail
              refine bodyPost_ret (results_row_tmp rfl _ _ w.heap.size _ _ (0, 0) _ rfl (set7 _ _ _ _ _ _ _ U5.out.res) Tryz.underlying29 rfl (by kernel_rfl)) rfl ?_
              rw [(rowV_old HF.out (by omega) HOO.out HXX.out).1, (rowV_old HF.out (by omega) HOO.out HXX.out).2]
              exact rowTup_of U5.out.bel U5.out.sz ⟨U5.out.own2, .inl ⟨rfl, rfl, rfl⟩, fun q hq h2 => by cases h2⟩ U5.out.len2 rfl 0
          · cases oo with
            | false =>
              go_wp2_with fail
              refine bodyPost_ret (results_row_tmp rfl _ _ w.heap.size _ _ (0, 0) _ rfl (set7 _ _ _ _ _ _ _ U5.out.res) Tryz.underlying29 rfl (by kernel_rfl)) rfl ?_
              rw [(rowV_aside HF.out (by omega) HOO.out HU.out).1, (rowV_aside HF.out (by omega) HOO.out HU.out).2]
              exact rowTup_of U5.out.bel U5.out.sz ⟨.inl ⟨rfl, rfl, rfl⟩, U5.out.own1, fun q hq => by cases hq⟩ rfl U5.out.len1 0
            | true =>
              obtain ⟨ho0, hxo⟩ : go = cs ∧ encS cs t = xo := by simpa using EO.out
              subst ho0
              have HXX : Hd (encS _ t = xo) := ⟨hxo⟩
              clear hxo
              go_wp2_with fail
              refine bodyPost_ret (results_row_tmp rfl _ _ w.heap.size _ _ (0, 0) _ rfl (set7 _ _ _ _ _ _ _ U5.out.res) Tryz.underlying29 rfl (by kernel_rfl)) rfl ?_
              rw [(rowV_both HF.out (by omega) HOO.out HXX.out HU.out).1, (rowV_both HF.out (by omega) HOO.out HXX.out HU.out).2]
              exact rowTup_of U5.out.bel U5.out.sz ⟨U5.out.own2, U5.out.own1, U5.out.ne⟩ U5.out.len2 U5.out.len1 0
          · cases oo with
            | false =>
              go_wp2_with fail
              refine bodyPost_ret (results_row_tmp rfl _ _ w.heap.size _ _ (0, 0) _ rfl (set7 _ _ _ _ _ _ _ U5.out.res) Tryz.underlying29 rfl (by kernel_rfl)) rfl ?_
              rw [(rowV_aside HF.out (by omega) HOO.out HU.out).1, (rowV_aside HF.out (by omega) HOO.out HU.out).2]
              exact rowTup_of U5.out.bel U5.out.sz ⟨.inl ⟨rfl, rfl, rfl⟩, U5.out.own1, fun q hq => by cases hq⟩ rfl U5.out.len1 0
            | true =>
              obtain ⟨ho0, hxo⟩ : go = cs ∧ encS cs t = xo := by simpa using EO.out
              subst ho0
              have HXX : Hd (encS _ t = xo) := ⟨hxo⟩
              clear hxo
              go_wp2_with fail
              refine bodyPost_ret (results_row_tmp rfl _ _ w.heap.size _ _ (0, 0) _ rfl (set7 _ _ _ _ _ _ _ U5.out.res) Tryz.underlying29 rfl (by kernel_rfl)) rfl ?_
              rw [(rowV_both HF.out (by omega) HOO.out HXX.out HU.out).1, (rowV_both HF.out (by omega) HOO.out HXX.out HU.out).2]
              exact rowTup_of U5.out.bel U5.out.sz ⟨U5.out.own2, U5.out.own1, U5.out.ne⟩ U5.out.len2 U5.out.len1 0
          · cases oo with
            | false =>
              go_wp2_with fail
              refine bodyPost_ret (results_row_tmp rfl _ _ w.heap.size _ _ (0, 0) _ rfl (set7 _ _ _ _ _ _ _ U5.out.res) Tryz.underlying29 rfl (by kernel_rfl)) rfl ?_
              rw [(rowV_aside HF.out (by omega) HOO.out HU.out).1, (rowV_aside HF.out (by omega) HOO.out HU.out).2]
              exact rowTup_of U5.out.bel U5.out.sz ⟨.inl ⟨rfl, rfl, rfl⟩, U5.out.own1, fun q hq => by cases hq⟩ rfl U5.out.len1 0
            | true =>
              obtain ⟨ho0, hxo⟩ : go = cs ∧ encS cs t = xo := by simpa using EO.out
              subst ho0
              have HXX : Hd (encS _ t = xo) := ⟨hxo⟩
              clear hxo
              go_wp2_with fail
              refine bodyPost_ret (results_row_tmp rfl _ _ w.heap.size _ _ (0, 0) _ rfl (set7 _ _ _ _ _ _ _ U5.out.res) Tryz.underlying29 rfl (by kernel_rfl)) rfl ?_
              rw [(rowV_both HF.out (by omega) HOO.out HXX.out HU.out).1, (rowV_both HF.out (by omega) HOO.out HXX.out HU.out).2]
              exact rowTup_of U5.out.bel U5.out.sz ⟨U5.out.own2, U5.out.own1, U5.out.ne⟩ U5.out.len2 U5.out.len1 0
          · go_wp2_with fail
            refine bodyPost_ret (results_row_tmp rfl _ _ w.heap.size _ _ (0, 0) _ rfl (set7 _ _ _ _ _ _ _ U5.out.res) Tryz.underlying29 rfl (by kernel_rfl)) rfl ?_
            rw [(rowV_new HF.out (by omega) HU.out).1, (rowV_new HF.out (by omega) HU.out).2]
            exact rowTup_of U5.out.bel U5.out.sz ⟨.inl ⟨rfl, rfl, rfl⟩, U5.out.own1, fun q hq => by cases hq⟩ rfl U5.out.len1 0
          · go_wp2_with fail
            refine bodyPost_ret (results_row_tmp rfl _ _ w.heap.size _ _ (0, 0) _ rfl (set7 _ _ _ _ _ _ _ U5.out.res) Tryz.underlying29 rfl (by kernel_rfl)) rfl ?_
            rw [(rowV_new HF.out (by omega) HU.out).1, (rowV_new HF.out (by omega) HU.out).2]
            exact rowTup_of U5.out.bel U5.out.sz ⟨.inl ⟨rfl, rfl, rfl⟩, U5.out.own1, fun q hq => by cases hq⟩ rfl U5.out.len1 0
          · cases oo with
            | false =>
              go_wp2_with fail
              refine bodyPost_ret (results_row_tmp rfl _ _ w.heap.size _ _ (0, 0) _ rfl (set7 _ _ _ _ _ _ _ U5.out.res) Tryz.underlying29 rfl (by kernel_rfl)) rfl ?_
              rw [(rowV_aside HF.out (by omega) HOO.out HU.out).1, (rowV_aside HF.out (by omega) HOO.out HU.out).2]
              exact rowTup_of U5.out.bel U5.out.sz ⟨.inl ⟨rfl, rfl, rfl⟩, U5.out.own1, fun q hq => by cases hq⟩ rfl U5.out.len1 0
            | true =>
              obtain ⟨ho0, hxo⟩ : go = cs ∧ encS cs t = xo := by simpa using EO.out
              subst ho0
              have HXX : Hd (encS _ t = xo) := ⟨hxo⟩
              clear hxo
              go_wp2_with fail
              refine bodyPost_ret (results_row_tmp rfl _ _ w.heap.size _ _ (0, 0) _ rfl (set7 _ _ _ _ _ _ _ U5.out.res) Tryz.underlying29 rfl (by kernel_rfl)) rfl ?_
              rw [(rowV_old HF.out (by omega) HOO.out HXX.out).1, (rowV_old HF.out (by omega) HOO.out HXX.out).2]
              exact rowTup_of U5.out.bel U5.out.sz ⟨U5.out.own2, .inl ⟨rfl, rfl, rfl⟩, fun q hq h2 => by cases h2⟩ U5.out.len2 rfl 0
          · cases oo with
            | false =>
              go_wp2_with fail
              refine bodyPost_ret (results_row_tmp rfl _ _ w.heap.size _ _ (0, 0) _ rfl (set7 _ _ _ _ _ _ _ U5.out.res) Tryz.underlying29 rfl (by kernel_rfl)) rfl ?_
              rw [(rowV_unfit HF.out (by omega) HOO.out).1, (rowV_unfit HF.out (by omega) HOO.out).2]
              exact rowTup_of U5.out.bel U5.out.sz ⟨.inl ⟨rfl, rfl, rfl⟩, .inl ⟨rfl, rfl, rfl⟩, fun q hq => by cases hq⟩ rfl rfl 3
            | true =>
              obtain ⟨ho0, hxo⟩ : go = cs ∧ encS cs t = xo := by simpa using EO.out
              subst ho0
              have HXX : Hd (encS _ t = xo) := ⟨hxo⟩
              clear hxo
              go_wp2_with fail
              refine bodyPost_ret (results_row_tmp rfl _ _ w.heap.size _ _ (0, 0) _ rfl (set7 _ _ _ _ _ _ _ U5.out.res) Tryz.underlying29 rfl (by kernel_rfl)) rfl ?_
              rw [(rowV_old HF.out (by omega) HOO.out HXX.out).1, (rowV_old HF.out (by omega) HOO.out HXX.out).2]
              exact rowTup_of U5.out.bel U5.out.sz ⟨U5.out.own2, .inl ⟨rfl, rfl, rfl⟩, fun q hq h2 => by cases h2⟩ U5.out.len2 rfl 0

end Go.Proofs.YtpafjehphajbhaaGreatDoor
