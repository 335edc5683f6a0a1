/- Contracts of l9Copy and RowOk, in the specification; rows as answers. -/
import Derived.Test.YtpafjehphajbhaaGreatDoorRowU
import Derived.Deep.RegionHeld3
namespace Go.Proofs.YtpafjehphajbhaaGreatDoor
set_option maxRecDepth 4000
open Go.RowKit

theorem same_below {w w' : World} (h : w' = w) : Below w.heap.size w w' := by subst h; exact Below.refl _ _
theorem hO1 : Hd (oldB 1 = true) := ⟨has_one.1⟩
theorem hN1 : Hd (newB 1 = false) := ⟨has_one.2⟩
theorem hO2 : Hd (oldB 2 = false) := ⟨has_two.1⟩
theorem hN2 : Hd (newB 2 = true) := ⟨has_two.2⟩
theorem hO3 : Hd (oldB 3 = true) := ⟨has_three.1⟩
theorem hN3 : Hd (newB 3 = true) := ⟨has_three.2⟩

set_option maxHeartbeats 4000000 in
theorem specRowOk_any (k : ByteArray) (t1 : Int) (a1 : Option Addr) (n1 c1 : Nat) (t2 : Int) (a2 : Option Addr) (n2 c2 : Nat) (has : Int) (asd : Bool) (b1 b2 : List UInt8) (w : World) (hk : k.size ≤ 1048576) (h1 : CellAt w a1 n1 c1 b1) (h2 : CellAt w a2 n2 c2 b2) (hl1 : n1 ≤ 1048576) (hl2 : n2 ≤ 1048576) :
    Calls Tryz.prog 25 #[.agg #[.string k, .int .i64 t1, .slice a1 n1 c1, .int .i64 t2, .slice a2 n2 c2, .int .i64 has, .bool asd]] w fun e w' => e = .returned (.bool (rOk ⟨k, t1, b1, t2, b2, has, asd⟩)) ∧ Below w.heap.size w w' := by
  have H1 : Hd (CellAt w a1 n1 c1 b1) := ⟨h1⟩
  have H2 : Hd (CellAt w a2 n2 c2 b2) := ⟨h2⟩
  have F0 : Hd (RBox w w.heap.size k t1 a1 n1 c1 t2 a2 n2 c2 has asd (w.alloc (.cells #[.string k, .int .i64 t1, .slice a1 n1 c1, .int .i64 t2, .slice a2 n2 c2, .int .i64 has, .bool asd] 29))) := ⟨rBox_new w k t1 a1 n1 c1 t2 a2 n2 c2 has asd⟩
  obtain ⟨nk, hnk⟩ : ∃ x, nameOkB k = x := ⟨_, rfl⟩
  have HNK : Hd (nameOkB k = nk) := ⟨hnk⟩
  obtain ⟨ih, hih⟩ : ∃ x, inB has 1 3 = x := ⟨_, rfl⟩
  have HIH : Hd (inB has 1 3 = ih) := ⟨hih⟩
  obtain ⟨z1, hz1⟩ : ∃ x, noneB t1 n1 = x := ⟨_, rfl⟩
  have HZ1 : Hd (noneB t1 n1 = z1) := ⟨hz1⟩
  obtain ⟨z2, hz2⟩ : ∃ x, noneB t2 n2 = x := ⟨_, rfl⟩
  have HZ2 : Hd (noneB t2 n2 = z2) := ⟨hz2⟩
  obtain ⟨i1, hi1⟩ : ∃ x, inB t1 1 5 = x := ⟨_, rfl⟩
  have HI1 : Hd (inB t1 1 5 = i1) := ⟨hi1⟩
  obtain ⟨c1k, hc1⟩ : ∃ x, cOk t1 n1 = x := ⟨_, rfl⟩
  have HC1 : Hd (cOk t1 n1 = c1k) := ⟨hc1⟩
  obtain ⟨e2, he2⟩ : ∃ x, (t2 == 0) = x := ⟨_, rfl⟩
  obtain ⟨k1, hk1⟩ : ∃ x, tOk t1 b1 = x := ⟨_, rfl⟩
  have HK1 : Hd (tOk t1 b1 = k1) := ⟨hk1⟩
  obtain ⟨k2, hk2⟩ : ∃ x, tOk t2 b2 = x := ⟨_, rfl⟩
  have HK2 : Hd (tOk t2 b2 = k2) := ⟨hk2⟩
  obtain ⟨S1, hs1⟩ : ∃ x, (tS t1 b1).toArray = x := ⟨_, rfl⟩
  have HS1 : Hd ((tS t1 b1).toArray = S1) := ⟨hs1⟩
  obtain ⟨S2, hs2⟩ : ∃ x, (tS t2 b2).toArray = x := ⟨_, rfl⟩
  have HS2 : Hd ((tS t2 b2).toArray = S2) := ⟨hs2⟩
  obtain ⟨m, hm⟩ : ∃ x, mOk t1 b1 t2 b2 = x := ⟨_, rfl⟩
  have HM : Hd (mOk t1 b1 t2 b2 = m) := ⟨hm⟩
  have E : Hd (rOk ⟨k, t1, b1, t2, b2, has, asd⟩ = (nk && ih && (oldB has || z1) && (newB has || z2) && (!oldB has || (i1 && c1k)) && (!newB has || (e2 && k2)) && (!oldB has || k1 || (asd && !newB has)) && (has != 3 || m))) := ⟨by
    simp only [rOk, h1.size, h2.size, hnk, hih, hz1, hz2, hi1, hc1, he2, hk1, hk2, hm]⟩
  rewrite [E.out]
  have he2n : (t2 != 0) = !e2 := by rw [← he2]; rfl
  clear h1 h2 hnk hih hz1 hz2 hi1 hc1 he2 hk1 hk2 hs1 hs2 hm E
  go_enter Tryz.func25, Tryz.ntmps25
  go_wp2_with fail
  refine (specNameOk_any k _ hk).mono ?_
  rintro e v1 ⟨rfl, hB⟩
  replace hB := same_below hB
  rewrite [HNK.out]
  have F1 : Hd (RBox w w.heap.size k t1 a1 n1 c1 t2 a2 n2 c2 has asd v1) := ⟨F0.out.below hB⟩
  obtain ⟨x0, x1, x2, x3, x4, x5, x6⟩ := cells7 v1 w.heap.size _ _ _ _ _ _ _ _ F1.out.box
  clear hB F0
  cases nk with
  | false =>
    go_wp2_with fail
    go_ret
    exact ⟨rfl, F1.out.bel⟩
  | true =>
    go_wp2_with fail
    clear x0 x1 x2 x3 x4 x5 x6
    refine (l1In_any has 1 3 _).mono ?_
    rintro e v2 ⟨rfl, hB⟩
    replace hB := same_below hB
    rewrite [HIH.out]
    have F2 : Hd (RBox w w.heap.size k t1 a1 n1 c1 t2 a2 n2 c2 has asd v2) := ⟨F1.out.below hB⟩
    obtain ⟨x0, x1, x2, x3, x4, x5, x6⟩ := cells7 v2 w.heap.size _ _ _ _ _ _ _ _ F2.out.box
    clear hB F1
    cases ih with
    | false =>
      go_wp2_with fail
      go_ret
      exact ⟨rfl, F2.out.bel⟩
    | true =>
      rcases has_cases HIH.out with rfl | rfl | rfl
      · go_wp2_with fail
        clear x0 x1 x2 x3 x4 x5 x6
        refine (l9Old_any k t1 a1 n1 c1 t2 a2 n2 c2 1 asd _).mono ?_
        rintro e v3 ⟨rfl, hB⟩
        rewrite [hO1.out]
        have F3 : Hd (RBox w w.heap.size k t1 a1 n1 c1 t2 a2 n2 c2 1 asd v3) := ⟨F2.out.below hB⟩
        obtain ⟨x0, x1, x2, x3, x4, x5, x6⟩ := cells7 v3 w.heap.size _ _ _ _ _ _ _ _ F3.out.box
        clear hB F2
        go_wp2_with fail
        clear x0 x1 x2 x3 x4 x5 x6
        refine (l9New_any k t1 a1 n1 c1 t2 a2 n2 c2 1 asd _).mono ?_
        rintro e v4 ⟨rfl, hB⟩
        rewrite [hN1.out]
        have F4 : Hd (RBox w w.heap.size k t1 a1 n1 c1 t2 a2 n2 c2 1 asd v4) := ⟨F3.out.below hB⟩
        obtain ⟨x0, x1, x2, x3, x4, x5, x6⟩ := cells7 v4 w.heap.size _ _ _ _ _ _ _ _ F4.out.box
        clear hB F3
        go_wp2_with fail
        clear x0 x1 x2 x3 x4 x5 x6
        refine (l9None_any t2 a2 n2 c2 _).mono ?_
        rintro e v5 ⟨rfl, hB⟩
        rewrite [HZ2.out]
        have F5 : Hd (RBox w w.heap.size k t1 a1 n1 c1 t2 a2 n2 c2 1 asd v5) := ⟨F4.out.below hB⟩
        obtain ⟨x0, x1, x2, x3, x4, x5, x6⟩ := cells7 v5 w.heap.size _ _ _ _ _ _ _ _ F5.out.box
        clear hB F4
        cases z2 with
        | false =>
          go_wp2_with fail
          go_ret
          exact ⟨by rw [has_one.1, has_one.2]; rfl, F5.out.bel⟩
        | true =>
          go_wp2_with fail
          clear x0 x1 x2 x3 x4 x5 x6
          refine (specCellText_any t1 a1 n1 c1 b1 _ (H1.out.below F5.out.bel) hl1).mono ?_
          rintro e v6 ⟨rfl, hB⟩
          rewrite [HS1.out, HK1.out]
          have F6 : Hd (RBox w w.heap.size k t1 a1 n1 c1 t2 a2 n2 c2 1 asd v6) := ⟨F5.out.below hB⟩
          obtain ⟨x0, x1, x2, x3, x4, x5, x6⟩ := cells7 v6 w.heap.size _ _ _ _ _ _ _ _ F6.out.box
          clear hB F5
          go_wp2_with fail
          clear x0 x1 x2 x3 x4 x5 x6
          refine (specCellText_any t2 a2 n2 c2 b2 _ (H2.out.below F6.out.bel) hl2).mono ?_
          rintro e v7 ⟨rfl, hB⟩
          rewrite [HS2.out, HK2.out]
          have F7 : Hd (RBox w w.heap.size k t1 a1 n1 c1 t2 a2 n2 c2 1 asd v7) := ⟨F6.out.below hB⟩
          obtain ⟨x0, x1, x2, x3, x4, x5, x6⟩ := cells7 v7 w.heap.size _ _ _ _ _ _ _ _ F7.out.box
          clear hB F6
          go_wp2_with fail
          clear x0 x1 x2 x3 x4 x5 x6
          refine (l9Old_any k t1 a1 n1 c1 t2 a2 n2 c2 1 asd _).mono ?_
          rintro e v8 ⟨rfl, hB⟩
          rewrite [hO1.out]
          have F8 : Hd (RBox w w.heap.size k t1 a1 n1 c1 t2 a2 n2 c2 1 asd v8) := ⟨F7.out.below hB⟩
          obtain ⟨x0, x1, x2, x3, x4, x5, x6⟩ := cells7 v8 w.heap.size _ _ _ _ _ _ _ _ F8.out.box
          clear hB F7
          go_wp2_with fail
          clear x0 x1 x2 x3 x4 x5 x6
          refine (l1In_any t1 1 5 _).mono ?_
          rintro e v9 ⟨rfl, hB⟩
          replace hB := same_below hB
          rewrite [HI1.out]
          have F9 : Hd (RBox w w.heap.size k t1 a1 n1 c1 t2 a2 n2 c2 1 asd v9) := ⟨F8.out.below hB⟩
          obtain ⟨x0, x1, x2, x3, x4, x5, x6⟩ := cells7 v9 w.heap.size _ _ _ _ _ _ _ _ F9.out.box
          clear hB F8
          cases i1 with
          | false =>
            go_wp2_with fail
            go_ret
            exact ⟨by rw [has_one.1, has_one.2]; rfl, F9.out.bel⟩
          | true =>
            go_wp2_with fail
            clear x0 x1 x2 x3 x4 x5 x6
            refine (specCellOk_any t1 a1 n1 c1 _).mono ?_
            rintro e v10 ⟨rfl, hB⟩
            rewrite [HC1.out]
            have F10 : Hd (RBox w w.heap.size k t1 a1 n1 c1 t2 a2 n2 c2 1 asd v10) := ⟨F9.out.below hB⟩
            obtain ⟨x0, x1, x2, x3, x4, x5, x6⟩ := cells7 v10 w.heap.size _ _ _ _ _ _ _ _ F10.out.box
            clear hB F9
            cases c1k with
            | false =>
              go_wp2_with fail
              go_ret
              exact ⟨by rw [has_one.1, has_one.2]; rfl, F10.out.bel⟩
            | true =>
              go_wp2_with fail
              clear x0 x1 x2 x3 x4 x5 x6
              refine (l9New_any k t1 a1 n1 c1 t2 a2 n2 c2 1 asd _).mono ?_
              rintro e v11 ⟨rfl, hB⟩
              rewrite [hN1.out]
              have F11 : Hd (RBox w w.heap.size k t1 a1 n1 c1 t2 a2 n2 c2 1 asd v11) := ⟨F10.out.below hB⟩
              obtain ⟨x0, x1, x2, x3, x4, x5, x6⟩ := cells7 v11 w.heap.size _ _ _ _ _ _ _ _ F11.out.box
              clear hB F10
              go_wp2_with fail
              clear x0 x1 x2 x3 x4 x5 x6
              refine (l9Old_any k t1 a1 n1 c1 t2 a2 n2 c2 1 asd _).mono ?_
              rintro e v12 ⟨rfl, hB⟩
              rewrite [hO1.out]
              have F12 : Hd (RBox w w.heap.size k t1 a1 n1 c1 t2 a2 n2 c2 1 asd v12) := ⟨F11.out.below hB⟩
              obtain ⟨x0, x1, x2, x3, x4, x5, x6⟩ := cells7 v12 w.heap.size _ _ _ _ _ _ _ _ F12.out.box
              clear hB F11
              cases k1 with
              | true =>
                go_wp2_with fail
                go_ret
                exact ⟨by rw [has_one.1, has_one.2]; rfl, F12.out.bel⟩
              | false =>
                cases asd with
                | false =>
                  go_wp2_with fail
                  go_ret
                  exact ⟨by rw [has_one.1, has_one.2]; rfl, F12.out.bel⟩
                | true =>
                  go_wp2_with fail
                  clear x0 x1 x2 x3 x4 x5 x6
                  refine (l9New_any k t1 a1 n1 c1 t2 a2 n2 c2 1 true _).mono ?_
                  rintro e v13 ⟨rfl, hB⟩
                  rewrite [hN1.out]
                  have F13 : Hd (RBox w w.heap.size k t1 a1 n1 c1 t2 a2 n2 c2 1 true v13) := ⟨F12.out.below hB⟩
                  obtain ⟨x0, x1, x2, x3, x4, x5, x6⟩ := cells7 v13 w.heap.size _ _ _ _ _ _ _ _ F13.out.box
                  clear hB F12
                  go_wp2_with fail
                  go_ret
                  exact ⟨by rw [has_one.1, has_one.2]; rfl, F13.out.bel⟩
      · go_wp2_with fail
        clear x0 x1 x2 x3 x4 x5 x6
        refine (l9Old_any k t1 a1 n1 c1 t2 a2 n2 c2 2 asd _).mono ?_
        rintro e v3 ⟨rfl, hB⟩
        rewrite [hO2.out]
        have F3 : Hd (RBox w w.heap.size k t1 a1 n1 c1 t2 a2 n2 c2 2 asd v3) := ⟨F2.out.below hB⟩
        obtain ⟨x0, x1, x2, x3, x4, x5, x6⟩ := cells7 v3 w.heap.size _ _ _ _ _ _ _ _ F3.out.box
        clear hB F2
        go_wp2_with fail
        clear x0 x1 x2 x3 x4 x5 x6
        refine (l9None_any t1 a1 n1 c1 _).mono ?_
        rintro e v4 ⟨rfl, hB⟩
        rewrite [HZ1.out]
        have F4 : Hd (RBox w w.heap.size k t1 a1 n1 c1 t2 a2 n2 c2 2 asd v4) := ⟨F3.out.below hB⟩
        obtain ⟨x0, x1, x2, x3, x4, x5, x6⟩ := cells7 v4 w.heap.size _ _ _ _ _ _ _ _ F4.out.box
        clear hB F3
        cases z1 with
        | false =>
          go_wp2_with fail
          go_ret
          exact ⟨by rw [has_two.1, has_two.2]; rfl, F4.out.bel⟩
        | true =>
          go_wp2_with fail
          clear x0 x1 x2 x3 x4 x5 x6
          refine (l9New_any k t1 a1 n1 c1 t2 a2 n2 c2 2 asd _).mono ?_
          rintro e v5 ⟨rfl, hB⟩
          rewrite [hN2.out]
          have F5 : Hd (RBox w w.heap.size k t1 a1 n1 c1 t2 a2 n2 c2 2 asd v5) := ⟨F4.out.below hB⟩
          obtain ⟨x0, x1, x2, x3, x4, x5, x6⟩ := cells7 v5 w.heap.size _ _ _ _ _ _ _ _ F5.out.box
          clear hB F4
          go_wp2_with fail
          clear x0 x1 x2 x3 x4 x5 x6
          refine (specCellText_any t1 a1 n1 c1 b1 _ (H1.out.below F5.out.bel) hl1).mono ?_
          rintro e v6 ⟨rfl, hB⟩
          rewrite [HS1.out, HK1.out]
          have F6 : Hd (RBox w w.heap.size k t1 a1 n1 c1 t2 a2 n2 c2 2 asd v6) := ⟨F5.out.below hB⟩
          obtain ⟨x0, x1, x2, x3, x4, x5, x6⟩ := cells7 v6 w.heap.size _ _ _ _ _ _ _ _ F6.out.box
          clear hB F5
          go_wp2_with fail
          clear x0 x1 x2 x3 x4 x5 x6
          refine (specCellText_any t2 a2 n2 c2 b2 _ (H2.out.below F6.out.bel) hl2).mono ?_
          rintro e v7 ⟨rfl, hB⟩
          rewrite [HS2.out, HK2.out]
          have F7 : Hd (RBox w w.heap.size k t1 a1 n1 c1 t2 a2 n2 c2 2 asd v7) := ⟨F6.out.below hB⟩
          obtain ⟨x0, x1, x2, x3, x4, x5, x6⟩ := cells7 v7 w.heap.size _ _ _ _ _ _ _ _ F7.out.box
          clear hB F6
          go_wp2_with fail
          clear x0 x1 x2 x3 x4 x5 x6
          refine (l9Old_any k t1 a1 n1 c1 t2 a2 n2 c2 2 asd _).mono ?_
          rintro e v8 ⟨rfl, hB⟩
          rewrite [hO2.out]
          have F8 : Hd (RBox w w.heap.size k t1 a1 n1 c1 t2 a2 n2 c2 2 asd v8) := ⟨F7.out.below hB⟩
          obtain ⟨x0, x1, x2, x3, x4, x5, x6⟩ := cells7 v8 w.heap.size _ _ _ _ _ _ _ _ F8.out.box
          clear hB F7
          go_wp2_with fail
          clear x0 x1 x2 x3 x4 x5 x6
          refine (l9New_any k t1 a1 n1 c1 t2 a2 n2 c2 2 asd _).mono ?_
          rintro e v9 ⟨rfl, hB⟩
          rewrite [hN2.out]
          have F9 : Hd (RBox w w.heap.size k t1 a1 n1 c1 t2 a2 n2 c2 2 asd v9) := ⟨F8.out.below hB⟩
          obtain ⟨x0, x1, x2, x3, x4, x5, x6⟩ := cells7 v9 w.heap.size _ _ _ _ _ _ _ _ F9.out.box
          clear hB F8
          cases e2 with
          | false =>
            go_wp2_with fail
            go_ret
            exact ⟨by rw [has_two.1, has_two.2]; rfl, F9.out.bel⟩
          | true =>
            cases k2 with
            | false =>
              go_wp2_with fail
              go_ret
              exact ⟨by rw [has_two.1, has_two.2]; rfl, F9.out.bel⟩
            | true =>
              go_wp2_with fail
              clear x0 x1 x2 x3 x4 x5 x6
              refine (l9Old_any k t1 a1 n1 c1 t2 a2 n2 c2 2 asd _).mono ?_
              rintro e v10 ⟨rfl, hB⟩
              rewrite [hO2.out]
              have F10 : Hd (RBox w w.heap.size k t1 a1 n1 c1 t2 a2 n2 c2 2 asd v10) := ⟨F9.out.below hB⟩
              obtain ⟨x0, x1, x2, x3, x4, x5, x6⟩ := cells7 v10 w.heap.size _ _ _ _ _ _ _ _ F10.out.box
              clear hB F9
              go_wp2_with fail
              go_ret
              exact ⟨by rw [has_two.1, has_two.2]; rfl, F10.out.bel⟩
      · go_wp2_with fail
        clear x0 x1 x2 x3 x4 x5 x6
        refine (l9Old_any k t1 a1 n1 c1 t2 a2 n2 c2 3 asd _).mono ?_
        rintro e v3 ⟨rfl, hB⟩
        rewrite [hO3.out]
        have F3 : Hd (RBox w w.heap.size k t1 a1 n1 c1 t2 a2 n2 c2 3 asd v3) := ⟨F2.out.below hB⟩
        obtain ⟨x0, x1, x2, x3, x4, x5, x6⟩ := cells7 v3 w.heap.size _ _ _ _ _ _ _ _ F3.out.box
        clear hB F2
        go_wp2_with fail
        clear x0 x1 x2 x3 x4 x5 x6
        refine (l9New_any k t1 a1 n1 c1 t2 a2 n2 c2 3 asd _).mono ?_
        rintro e v4 ⟨rfl, hB⟩
        rewrite [hN3.out]
        have F4 : Hd (RBox w w.heap.size k t1 a1 n1 c1 t2 a2 n2 c2 3 asd v4) := ⟨F3.out.below hB⟩
        obtain ⟨x0, x1, x2, x3, x4, x5, x6⟩ := cells7 v4 w.heap.size _ _ _ _ _ _ _ _ F4.out.box
        clear hB F3
        go_wp2_with fail
        clear x0 x1 x2 x3 x4 x5 x6
        refine (specCellText_any t1 a1 n1 c1 b1 _ (H1.out.below F4.out.bel) hl1).mono ?_
        rintro e v5 ⟨rfl, hB⟩
        rewrite [HS1.out, HK1.out]
        have F5 : Hd (RBox w w.heap.size k t1 a1 n1 c1 t2 a2 n2 c2 3 asd v5) := ⟨F4.out.below hB⟩
        obtain ⟨x0, x1, x2, x3, x4, x5, x6⟩ := cells7 v5 w.heap.size _ _ _ _ _ _ _ _ F5.out.box
        clear hB F4
        go_wp2_with fail
        clear x0 x1 x2 x3 x4 x5 x6
        refine (specCellText_any t2 a2 n2 c2 b2 _ (H2.out.below F5.out.bel) hl2).mono ?_
        rintro e v6 ⟨rfl, hB⟩
        rewrite [HS2.out, HK2.out]
        have F6 : Hd (RBox w w.heap.size k t1 a1 n1 c1 t2 a2 n2 c2 3 asd v6) := ⟨F5.out.below hB⟩
        obtain ⟨x0, x1, x2, x3, x4, x5, x6⟩ := cells7 v6 w.heap.size _ _ _ _ _ _ _ _ F6.out.box
        clear hB F5
        go_wp2_with fail
        clear x0 x1 x2 x3 x4 x5 x6
        refine (l9Old_any k t1 a1 n1 c1 t2 a2 n2 c2 3 asd _).mono ?_
        rintro e v7 ⟨rfl, hB⟩
        rewrite [hO3.out]
        have F7 : Hd (RBox w w.heap.size k t1 a1 n1 c1 t2 a2 n2 c2 3 asd v7) := ⟨F6.out.below hB⟩
        obtain ⟨x0, x1, x2, x3, x4, x5, x6⟩ := cells7 v7 w.heap.size _ _ _ _ _ _ _ _ F7.out.box
        clear hB F6
        go_wp2_with fail
        clear x0 x1 x2 x3 x4 x5 x6
        refine (l1In_any t1 1 5 _).mono ?_
        rintro e v8 ⟨rfl, hB⟩
        replace hB := same_below hB
        rewrite [HI1.out]
        have F8 : Hd (RBox w w.heap.size k t1 a1 n1 c1 t2 a2 n2 c2 3 asd v8) := ⟨F7.out.below hB⟩
        obtain ⟨x0, x1, x2, x3, x4, x5, x6⟩ := cells7 v8 w.heap.size _ _ _ _ _ _ _ _ F8.out.box
        clear hB F7
        cases i1 with
        | false =>
          go_wp2_with fail
          go_ret
          exact ⟨by rw [has_three.1, has_three.2]; rfl, F8.out.bel⟩
        | true =>
          go_wp2_with fail
          clear x0 x1 x2 x3 x4 x5 x6
          refine (specCellOk_any t1 a1 n1 c1 _).mono ?_
          rintro e v9 ⟨rfl, hB⟩
          rewrite [HC1.out]
          have F9 : Hd (RBox w w.heap.size k t1 a1 n1 c1 t2 a2 n2 c2 3 asd v9) := ⟨F8.out.below hB⟩
          obtain ⟨x0, x1, x2, x3, x4, x5, x6⟩ := cells7 v9 w.heap.size _ _ _ _ _ _ _ _ F9.out.box
          clear hB F8
          cases c1k with
          | false =>
            go_wp2_with fail
            go_ret
            exact ⟨by rw [has_three.1, has_three.2]; rfl, F9.out.bel⟩
          | true =>
            go_wp2_with fail
            clear x0 x1 x2 x3 x4 x5 x6
            refine (l9New_any k t1 a1 n1 c1 t2 a2 n2 c2 3 asd _).mono ?_
            rintro e v10 ⟨rfl, hB⟩
            rewrite [hN3.out]
            have F10 : Hd (RBox w w.heap.size k t1 a1 n1 c1 t2 a2 n2 c2 3 asd v10) := ⟨F9.out.below hB⟩
            obtain ⟨x0, x1, x2, x3, x4, x5, x6⟩ := cells7 v10 w.heap.size _ _ _ _ _ _ _ _ F10.out.box
            clear hB F9
            cases e2 with
            | false =>
              go_wp2_with fail
              go_ret
              exact ⟨by rw [has_three.1, has_three.2]; rfl, F10.out.bel⟩
            | true =>
              cases k2 with
              | false =>
                go_wp2_with fail
                go_ret
                exact ⟨by rw [has_three.1, has_three.2]; rfl, F10.out.bel⟩
              | true =>
                go_wp2_with fail
                clear x0 x1 x2 x3 x4 x5 x6
                refine (l9Old_any k t1 a1 n1 c1 t2 a2 n2 c2 3 asd _).mono ?_
                rintro e v11 ⟨rfl, hB⟩
                rewrite [hO3.out]
                have F11 : Hd (RBox w w.heap.size k t1 a1 n1 c1 t2 a2 n2 c2 3 asd v11) := ⟨F10.out.below hB⟩
                obtain ⟨x0, x1, x2, x3, x4, x5, x6⟩ := cells7 v11 w.heap.size _ _ _ _ _ _ _ _ F11.out.box
                clear hB F10
                cases k1 with
                | false =>
                  cases asd with
                  | false =>
                    go_wp2_with fail
                    go_ret
                    exact ⟨by rw [has_three.1, has_three.2]; rfl, F11.out.bel⟩
                  | true =>
                    go_wp2_with fail
                    clear x0 x1 x2 x3 x4 x5 x6
                    refine (l9New_any k t1 a1 n1 c1 t2 a2 n2 c2 3 true _).mono ?_
                    rintro e v12 ⟨rfl, hB⟩
                    rewrite [hN3.out]
                    have F12 : Hd (RBox w w.heap.size k t1 a1 n1 c1 t2 a2 n2 c2 3 true v12) := ⟨F11.out.below hB⟩
                    obtain ⟨x0, x1, x2, x3, x4, x5, x6⟩ := cells7 v12 w.heap.size _ _ _ _ _ _ _ _ F12.out.box
                    clear hB F11
                    go_wp2_with fail
                    go_ret
                    exact ⟨by rw [has_three.1, has_three.2]; rfl, F12.out.bel⟩
                | true =>
                  go_wp2_with fail
                  clear x0 x1 x2 x3 x4 x5 x6
                  refine (specSameText_any t1 a1 n1 c1 b1 t2 a2 n2 c2 b2 _ (H1.out.below F11.out.bel) hl1 (H2.out.below F11.out.bel) hl2).mono ?_
                  rintro e v12 ⟨rfl, hB⟩
                  rewrite [HM.out]
                  have F12 : Hd (RBox w w.heap.size k t1 a1 n1 c1 t2 a2 n2 c2 3 asd v12) := ⟨F11.out.below hB⟩
                  obtain ⟨x0, x1, x2, x3, x4, x5, x6⟩ := cells7 v12 w.heap.size _ _ _ _ _ _ _ _ F12.out.box
                  clear hB F11
                  go_wp2_with fail
                  go_ret
                  exact ⟨by rw [has_three.1, has_three.2]; rfl, F12.out.bel⟩

/-- Two slices of bytes, each in new memory, or nil; not the same. -/
structure Apart (w : World) (B : Nat) (a1 : Option Addr) (c1 : Nat) (b1 : List UInt8) (a2 : Option Addr) (c2 : Nat) (b2 : List UInt8) : Prop where
  one : OwnO w B a1 c1 b1
  two : OwnO w B a2 c2 b2
  ne : ∀ q, a1 = some ⟨q, 0, none⟩ → a2 ≠ some ⟨q, 0, none⟩
theorem Apart.below {w w' : World} {B : Nat} {a1 : Option Addr} {c1 : Nat} {b1 : List UInt8} {a2 : Option Addr} {c2 : Nat} {b2 : List UInt8} (h : Apart w B a1 c1 b1 a2 c2 b2) (hB : Below w.heap.size w w') : Apart w' B a1 c1 b1 a2 c2 b2 := ⟨h.one.below hB, h.two.below hB, h.ne⟩
theorem Apart.mono {w : World} {B B' : Nat} {a1 : Option Addr} {c1 : Nat} {b1 : List UInt8} {a2 : Option Addr} {c2 : Nat} {b2 : List UInt8} (h : Apart w B a1 c1 b1 a2 c2 b2) (hb : B' ≤ B) : Apart w B' a1 c1 b1 a2 c2 b2 := ⟨h.one.mono hb, h.two.mono hb, h.ne⟩
theorem Apart.of_set {w : World} {B q j : Nat} {v : Value} {a1 : Option Addr} {c1 : Nat} {b1 : List UInt8} {a2 : Option Addr} {c2 : Nat} {b2 : List UInt8} (h : Apart w B a1 c1 b1 a2 c2 b2) (hq : q < B) : Apart (w.setCell ⟨q, j, none⟩ v) B a1 c1 b1 a2 c2 b2 := ⟨h.one.of_set hq, h.two.of_set hq, h.ne⟩
theorem Apart.of_set7 {w : World} {B q : Nat} {x0 x1 x2 x3 x4 x5 x6 : Value} {a1 : Option Addr} {c1 : Nat} {b1 : List UInt8} {a2 : Option Addr} {c2 : Nat} {b2 : List UInt8} (h : Apart w B a1 c1 b1 a2 c2 b2) (hq : q < B) :
    Apart (((((((w.setCell ⟨q, 0, none⟩ x0).setCell ⟨q, 1, none⟩ x1).setCell ⟨q, 2, none⟩ x2).setCell ⟨q, 3, none⟩ x3).setCell ⟨q, 4, none⟩ x4).setCell ⟨q, 5, none⟩ x5).setCell ⟨q, 6, none⟩ x6) B a1 c1 b1 a2 c2 b2 :=
  ((((((h.of_set hq).of_set hq).of_set hq).of_set hq).of_set hq).of_set hq).of_set hq
/-- A cell of another block, seven writes on. -/
theorem cell_set7 {w : World} {q : Nat} {x0 x1 x2 x3 x4 x5 x6 v : Value} {a : Addr} (h : w.cell? a = some v) (hne : a.block ≠ q) :
    (((((((w.setCell ⟨q, 0, none⟩ x0).setCell ⟨q, 1, none⟩ x1).setCell ⟨q, 2, none⟩ x2).setCell ⟨q, 3, none⟩ x3).setCell ⟨q, 4, none⟩ x4).setCell ⟨q, 5, none⟩ x5).setCell ⟨q, 6, none⟩ x6).cell? a = some v :=
  cell_set (cell_set (cell_set (cell_set (cell_set (cell_set (cell_set h hne) hne) hne) hne) hne) hne) hne
theorem bset7 {B : Nat} {a w : World} {q : Nat} {x0 x1 x2 x3 x4 x5 x6 : Value} (h : Below B a w) (hq : B ≤ q) :
    Below B a (((((((w.setCell ⟨q, 0, none⟩ x0).setCell ⟨q, 1, none⟩ x1).setCell ⟨q, 2, none⟩ x2).setCell ⟨q, 3, none⟩ x3).setCell ⟨q, 4, none⟩ x4).setCell ⟨q, 5, none⟩ x5).setCell ⟨q, 6, none⟩ x6) :=
  bset (bset (bset (bset (bset (bset (bset h _ hq) _ hq) _ hq) _ hq) _ hq) _ hq) _ hq
theorem block_set7 {w : World} {g q : Nat} {x0 x1 x2 x3 x4 x5 x6 : Value} {o : Option Obj} (h : w.heap[g]? = o) (hne : g ≠ q) :
    (((((((w.setCell ⟨q, 0, none⟩ x0).setCell ⟨q, 1, none⟩ x1).setCell ⟨q, 2, none⟩ x2).setCell ⟨q, 3, none⟩ x3).setCell ⟨q, 4, none⟩ x4).setCell ⟨q, 5, none⟩ x5).setCell ⟨q, 6, none⟩ x6).heap[g]? = o :=
  block_set (block_set (block_set (block_set (block_set (block_set (block_set h hne) hne) hne) hne) hne) hne) hne
theorem size_set7 {w : World} {q : Nat} {x0 x1 x2 x3 x4 x5 x6 : Value} :
    (((((((w.setCell ⟨q, 0, none⟩ x0).setCell ⟨q, 1, none⟩ x1).setCell ⟨q, 2, none⟩ x2).setCell ⟨q, 3, none⟩ x3).setCell ⟨q, 4, none⟩ x4).setCell ⟨q, 5, none⟩ x5).setCell ⟨q, 6, none⟩ x6).heap.size = w.heap.size := by simp

/-- A row that is answered: its cells' bytes are new memory, or nil, and not the same. -/
structure RowOut (w : World) (r : RowD) (e : Ending) (w' : World) : Prop where
  out : ∃ a1 n1 c1 a2 n2 c2, e = .returned (.agg #[.string r.key, .int .i64 r.t1, .slice a1 n1 c1, .int .i64 r.t2, .slice a2 n2 c2, .int .i64 r.has, .bool r.aside]) ∧ r.b1.length = n1 ∧ r.b2.length = n2 ∧ Apart w' (w.heap.size + 2) a1 c1 r.b1 a2 c2 r.b2 ∧ w.heap.size + 1 < w'.heap.size ∧ Below w.heap.size w w'

end Go.Proofs.YtpafjehphajbhaaGreatDoor
