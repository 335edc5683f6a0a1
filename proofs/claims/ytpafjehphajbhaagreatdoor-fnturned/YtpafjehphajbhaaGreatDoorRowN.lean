/- The contract of RowOf, in the program. -/
import Derived.Test.YtpafjehphajbhaaGreatDoorRowO
import Derived.Test.YtpafjehphajbhaaGreatDoorRowI
namespace Go.Proofs.YtpafjehphajbhaaGreatDoor
set_option maxRecDepth 4000
open Go.RowKit

set_option maxHeartbeats 4000000 in
theorem implRowOf_any (p : Int) (k : ByteArray) (cs : Int) (s : ByteArray) (w : World) (hk : k.size ≤ 1048576) (hs : s.size ≤ 1048576) (T : Hd (AllAt w)) :
    Calls Tryz.prog 7 #[.int .i64 p, .string k, .int .i64 cs, .string s] w (RowTup w (rowV p k cs s.data.toList) (rowC p k cs s.data.toList)) := by
  generalize ht : s.data.toList = t
  have Ht : Hd (s.data.toList = t) := ⟨ht⟩
  clear ht
  obtain ⟨ip, h9⟩ : ∃ x, inB p 0 7 = x := ⟨_, rfl⟩
  have HIP : Hd (inB p 0 7 = ip) := ⟨h9⟩
  clear h9
  obtain ⟨nk, h9⟩ : ∃ x, nameOkB k = x := ⟨_, rfl⟩
  have HNK : Hd (nameOkB k = nk) := ⟨h9⟩
  clear h9
  obtain ⟨ic, h9⟩ : ∃ x, inB cs 1 5 = x := ⟨_, rfl⟩
  have HIC : Hd (inB cs 1 5 = ic) := ⟨h9⟩
  clear h9
  obtain ⟨ou, h9⟩ : ∃ x, oOk 0 t = x := ⟨_, rfl⟩
  have HOU : Hd (oOk 0 t = ou) := ⟨h9⟩
  clear h9
  obtain ⟨oo, h9⟩ : ∃ x, oOk cs t = x := ⟨_, rfl⟩
  have HOO : Hd (oOk cs t = oo) := ⟨h9⟩
  clear h9
  obtain ⟨xu, h9⟩ : ∃ x, oB 0 t = x := ⟨_, rfl⟩
  have HXU : Hd (oB 0 t = xu) := ⟨h9⟩
  clear h9
  obtain ⟨xo, h9⟩ : ∃ x, oB cs t = x := ⟨_, rfl⟩
  have HXO : Hd (oB cs t = xo) := ⟨h9⟩
  clear h9
  obtain ⟨gu, h9⟩ : ∃ x, oTag 0 t = x := ⟨_, rfl⟩
  have HGU : Hd (oTag 0 t = gu) := ⟨h9⟩
  clear h9
  obtain ⟨go, h9⟩ : ∃ x, oTag cs t = x := ⟨_, rfl⟩
  have HGO : Hd (oTag cs t = go) := ⟨h9⟩
  clear h9
  have EU : Hd (ou = true → gu = 0 ∧ encS 0 t = xu) := ⟨fun e => by obtain ⟨_, _, e1, e2⟩ := oOk_t (HOU.out.trans e); exact ⟨HGU.out.symm.trans e1, e2.symm.trans HXU.out⟩⟩
  have EO : Hd (oo = true → go = cs ∧ encS cs t = xo) := ⟨fun e => by obtain ⟨_, _, e1, e2⟩ := oOk_t (HOO.out.trans e); exact ⟨HGO.out.symm.trans e1, e2.symm.trans HXO.out⟩⟩
  go_enter Tryz.func7, Tryz.ntmps7
  go_wp2_with fail
  refine (implCellOf_any 0 s _ hs ⟨T.out.below (below_lit w _)⟩).mono ?_
  rewrite [Ht.out, HOU.out, HXU.out, HGU.out]
  rintro e v1 ⟨au, nu, cu, rfl, hn, hO, hsz, hB⟩
  have U1 : Hd (UCell w v1.heap.size gu au nu cu xu (v1.alloc (.cells #[.int .i64 gu, .slice au nu cu] 27))) := ⟨uCell_new hn hO hsz hB⟩
  generalize hd : v1.heap.size = d1 at *
  clear hn hO hsz hB
  cases ou with
  | false =>
    obtain ⟨r0, r1, r2, r3, r4, r5, r6⟩ := cells7 _ w.heap.size _ _ _ _ _ _ _ _ U1.out.res
    obtain ⟨s0, s1, s2, s3, s4, s5, s6⟩ := free7 _ w.heap.size _ _ _ _ _ _ _ _ U1.out.res
    go_wp2_with fail
    refine bodyPost_ret (results_row_tmp rfl _ _ w.heap.size _ _ (0, 0) _ rfl (set7 _ _ _ _ _ _ _ U1.out.res) Tryz.underlying29 rfl (by kernel_rfl)) rfl ?_
    rw [(rowV_f (p := p) (k := k) (cs := cs) (s := t) (by unfold formB; rw [HOU.out]; simp)).1, (rowV_f (p := p) (k := k) (cs := cs) (s := t) (by unfold formB; rw [HOU.out]; simp)).2]
    exact rowTup_of U1.out.bel U1.out.sz ⟨.inl ⟨rfl, rfl, rfl⟩, .inl ⟨rfl, rfl, rfl⟩, fun q hq => by cases hq⟩ rfl rfl 1
  | true =>
    by_cases l0 : p < 0
    · obtain ⟨r0, r1, r2, r3, r4, r5, r6⟩ := cells7 _ w.heap.size _ _ _ _ _ _ _ _ U1.out.res
      obtain ⟨s0, s1, s2, s3, s4, s5, s6⟩ := free7 _ w.heap.size _ _ _ _ _ _ _ _ U1.out.res
      go_wp2_with fail
      refine bodyPost_ret (results_row_tmp rfl _ _ w.heap.size _ _ (0, 0) _ rfl (set7 _ _ _ _ _ _ _ U1.out.res) Tryz.underlying29 rfl (by kernel_rfl)) rfl ?_
      rw [(rowV_f (p := p) (k := k) (cs := cs) (s := t) (by exact formB_p (.inl l0))).1, (rowV_f (p := p) (k := k) (cs := cs) (s := t) (by exact formB_p (.inl l0))).2]
      exact rowTup_of U1.out.bel U1.out.sz ⟨.inl ⟨rfl, rfl, rfl⟩, .inl ⟨rfl, rfl, rfl⟩, fun q hq => by cases hq⟩ rfl rfl 1
    by_cases l7 : p > 7
    · obtain ⟨r0, r1, r2, r3, r4, r5, r6⟩ := cells7 _ w.heap.size _ _ _ _ _ _ _ _ U1.out.res
      obtain ⟨s0, s1, s2, s3, s4, s5, s6⟩ := free7 _ w.heap.size _ _ _ _ _ _ _ _ U1.out.res
      go_wp2_with fail
      refine bodyPost_ret (results_row_tmp rfl _ _ w.heap.size _ _ (0, 0) _ rfl (set7 _ _ _ _ _ _ _ U1.out.res) Tryz.underlying29 rfl (by kernel_rfl)) rfl ?_
      rw [(rowV_f (p := p) (k := k) (cs := cs) (s := t) (by exact formB_p (.inr l7))).1, (rowV_f (p := p) (k := k) (cs := cs) (s := t) (by exact formB_p (.inr l7))).2]
      exact rowTup_of U1.out.bel U1.out.sz ⟨.inl ⟨rfl, rfl, rfl⟩, .inl ⟨rfl, rfl, rfl⟩, fun q hq => by cases hq⟩ rfl rfl 1
    have e9 : ip = true := HIP.out.symm.trans (in_t ⟨by omega, by omega⟩)
    subst e9
    go_wp2_with fail
    generalize hw : (v1.alloc (.cells #[.int .i64 gu, .slice au nu cu] 27)) = V1 at *
    clear hd hw
    refine (implNameOk_any k _ hk).mono ?_
    rintro e v3 ⟨rfl, hw⟩
    replace hw := same_below hw
    rewrite [HNK.out]
    have U3 : Hd (UCell w d1 gu au nu cu xu v3) := ⟨U1.out.below hw⟩
    clear hw U1
    cases nk with
    | false =>
      obtain ⟨r0, r1, r2, r3, r4, r5, r6⟩ := cells7 _ w.heap.size _ _ _ _ _ _ _ _ U3.out.res
      obtain ⟨s0, s1, s2, s3, s4, s5, s6⟩ := free7 _ w.heap.size _ _ _ _ _ _ _ _ U3.out.res
      go_wp2_with fail
      refine bodyPost_ret (results_row_tmp rfl _ _ w.heap.size _ _ (0, 0) _ rfl (set7 _ _ _ _ _ _ _ U3.out.res) Tryz.underlying29 rfl (by kernel_rfl)) rfl ?_
      rw [(rowV_f (p := p) (k := k) (cs := cs) (s := t) (by unfold formB; rw [HNK.out]; simp)).1, (rowV_f (p := p) (k := k) (cs := cs) (s := t) (by unfold formB; rw [HNK.out]; simp)).2]
      exact rowTup_of U3.out.bel U3.out.sz ⟨.inl ⟨rfl, rfl, rfl⟩, .inl ⟨rfl, rfl, rfl⟩, fun q hq => by cases hq⟩ rfl rfl 1
    | true =>
      go_wp2_with fail
      refine (isOldSet_any cs _).mono ?_
      rintro e v4 ⟨rfl, hw⟩
      replace hw := same_below hw
      rewrite [HIC.out]
      have U4 : Hd (UCell w d1 gu au nu cu xu v4) := ⟨U3.out.below hw⟩
      clear hw U3
      cases ic with
      | false =>
        obtain ⟨r0, r1, r2, r3, r4, r5, r6⟩ := cells7 _ w.heap.size _ _ _ _ _ _ _ _ U4.out.res
        obtain ⟨s0, s1, s2, s3, s4, s5, s6⟩ := free7 _ w.heap.size _ _ _ _ _ _ _ _ U4.out.res
        go_wp2_with fail
        refine bodyPost_ret (results_row_tmp rfl _ _ w.heap.size _ _ (0, 0) _ rfl (set7 _ _ _ _ _ _ _ U4.out.res) Tryz.underlying29 rfl (by kernel_rfl)) rfl ?_
        rw [(rowV_f (p := p) (k := k) (cs := cs) (s := t) (by unfold formB; rw [HIC.out]; simp)).1, (rowV_f (p := p) (k := k) (cs := cs) (s := t) (by unfold formB; rw [HIC.out]; simp)).2]
        exact rowTup_of U4.out.bel U4.out.sz ⟨.inl ⟨rfl, rfl, rfl⟩, .inl ⟨rfl, rfl, rfl⟩, fun q hq => by cases hq⟩ rfl rfl 1
      | true =>
        obtain ⟨hg0, hxu⟩ : gu = 0 ∧ encS 0 t = xu := by simpa using EU.out
        subst hg0
        have HU : Hd (encS 0 t = xu) := ⟨hxu⟩
        clear hxu
        have HF : Hd (formB p k cs t = true) := ⟨by unfold formB; rw [HIP.out, HNK.out, HIC.out, HOU.out]; rfl⟩
        go_wp2_with fail
        refine (implCellOf_any cs s _ hs ⟨T.out.below U4.out.bel⟩).mono ?_
        rewrite [Ht.out, HOO.out, HXO.out, HGO.out]
        rintro e v5 ⟨a5, n5, c5, rfl, hn, hO, hsz, hB⟩
        have U5 : Hd (OCell w d1 0 au nu cu xu v5.heap.size go a5 n5 c5 xo (v5.alloc (.cells #[.int .i64 go, .slice a5 n5 c5] 27))) := ⟨oCell_new U4.out hn hO hB⟩
        generalize hd5 : v5.heap.size = d5 at *
        clear hn hO hsz hB U4
        have hp : p = 0 ∨ p = 1 ∨ p = 2 ∨ p = 3 ∨ p = 4 ∨ p = 5 ∨ p = 6 ∨ p = 7 := by have h9 := HIP.out; unfold inB at h9; rw [decide_eq_true_iff] at h9; omega
        have n1 : ¬ d1 = d5 := by have := U5.out.dd; omega
        have n2 : ¬ d5 = d1 := fun h => n1 h.symm
        have n3 : ¬ w.heap.size = d1 := by have := U5.out.wd; omega
        have n4 : ¬ w.heap.size = d5 := by have := U5.out.wd; have := U5.out.dd; omega
        obtain ⟨r0, r1, r2, r3, r4, r5, r6⟩ := cells7 _ w.heap.size _ _ _ _ _ _ _ _ U5.out.res
        obtain ⟨s0, s1, s2, s3, s4, s5, s6⟩ := free7 _ w.heap.size _ _ _ _ _ _ _ _ U5.out.res
        obtain ⟨k0, k1, _, _⟩ := cells2 _ d1 _ _ _ U5.out.box1
        obtain ⟨j0, j1, _, _⟩ := cells2 _ d5 _ _ _ U5.out.box2
        rcases hp with rfl | rfl | rfl | rfl | rfl | rfl | rfl | rfl
        · cases oo with
          | false =>
            go_wp2_with fail
            refine bodyPost_ret (results_row_tmp rfl _ _ w.heap.size _ _ (0, 0) _ rfl (set7 _ _ _ _ _ _ _ U5.out.res) Tryz.underlying29 rfl (by kernel_rfl)) rfl ?_
            rw [(rowV_unfit HF.out (by omega) HOO.out).1, (rowV_unfit HF.out (by omega) HOO.out).2]
            exact rowTup_of U5.out.bel U5.out.sz ⟨.inl ⟨rfl, rfl, rfl⟩, .inl ⟨rfl, rfl, rfl⟩, fun q hq => by cases hq⟩ rfl rfl 3
          | true =>
            obtain ⟨ho0, hxo⟩ : go = cs ∧ encS cs t = xo := by simpa using EO.out
            subst ho0
            have HXX : Hd (encS _ t = xo) := ⟨hxo⟩
            clear hxo
            go_wp2_with fail
            refine bodyPost_ret (results_row_tmp rfl _ _ w.heap.size _ _ (0, 0) _ rfl (set7 _ _ _ _ _ _ _ U5.out.res) Tryz.underlying29 rfl (by kernel_rfl)) rfl ?_
            rw [(rowV_old HF.out (by omega) HOO.out HXX.out).1, (rowV_old HF.out (by omega) HOO.out HXX.out).2]
            exact rowTup_of U5.out.bel U5.out.sz ⟨U5.out.own2, .inl ⟨rfl, rfl, rfl⟩, fun q hq h2 => by cases h2⟩ U5.out.len2 rfl 0
        · cases oo with
          | false =>
            go_wp2_with fail
            refine bodyPost_ret (results_row_tmp rfl _ _ w.heap.size _ _ (0, 0) _ rfl (set7 _ _ _ _ _ _ _ U5.out.res) Tryz.underlying29 rfl (by kernel_rfl)) rfl ?_
            rw [(rowV_aside HF.out (by omega) HOO.out HU.out).1, (rowV_aside HF.out (by omega) HOO.out HU.out).2]
            exact rowTup_of U5.out.bel U5.out.sz ⟨.inl ⟨rfl, rfl, rfl⟩, U5.out.own1, fun q hq => by cases hq⟩ rfl U5.out.len1 0
          | true =>
            obtain ⟨ho0, hxo⟩ : go = cs ∧ encS cs t = xo := by simpa using EO.out
            subst ho0
            have HXX : Hd (encS _ t = xo) := ⟨hxo⟩
            clear hxo
            go_wp2_with fail
            refine bodyPost_ret (results_row_tmp rfl _ _ w.heap.size _ _ (0, 0) _ rfl (set7 _ _ _ _ _ _ _ U5.out.res) Tryz.underlying29 rfl (by kernel_rfl)) rfl ?_
            rw [(rowV_both HF.out (by omega) HOO.out HXX.out HU.out).1, (rowV_both HF.out (by omega) HOO.out HXX.out HU.out).2]
            exact rowTup_of U5.out.bel U5.out.sz ⟨U5.out.own2, U5.out.own1, U5.out.ne⟩ U5.out.len2 U5.out.len1 0
        · cases oo with
          | false =>
            go_wp2_with fail
            refine bodyPost_ret (results_row_tmp rfl _ _ w.heap.size _ _ (0, 0) _ rfl (set7 _ _ _ _ _ _ _ U5.out.res) Tryz.underlying29 rfl (by kernel_rfl)) rfl ?_
            rw [(rowV_aside HF.out (by omega) HOO.out HU.out).1, (rowV_aside HF.out (by omega) HOO.out HU.out).2]
            exact rowTup_of U5.out.bel U5.out.sz ⟨.inl ⟨rfl, rfl, rfl⟩, U5.out.own1, fun q hq => by cases hq⟩ rfl U5.out.len1 0
          | true =>
            obtain ⟨ho0, hxo⟩ : go = cs ∧ encS cs t = xo := by simpa using EO.out
            subst ho0
            have HXX : Hd (encS _ t = xo) := ⟨hxo⟩
            clear hxo
            go_wp2_with fail
            refine bodyPost_ret (results_row_tmp rfl _ _ w.heap.size _ _ (0, 0) _ rfl (set7 _ _ _ _ _ _ _ U5.out.res) Tryz.underlying29 rfl (by kernel_rfl)) rfl ?_
            rw [(rowV_both HF.out (by omega) HOO.out HXX.out HU.out).1, (rowV_both HF.out (by omega) HOO.out HXX.out HU.out).2]
            exact rowTup_of U5.out.bel U5.out.sz ⟨U5.out.own2, U5.out.own1, U5.out.ne⟩ U5.out.len2 U5.out.len1 0
        · cases oo with
          | false =>
            go_wp2_with fail
            refine bodyPost_ret (results_row_tmp rfl _ _ w.heap.size _ _ (0, 0) _ rfl (set7 _ _ _ _ _ _ _ U5.out.res) Tryz.underlying29 rfl (by kernel_rfl)) rfl ?_
            rw [(rowV_aside HF.out (by omega) HOO.out HU.out).1, (rowV_aside HF.out (by omega) HOO.out HU.out).2]
            exact rowTup_of U5.out.bel U5.out.sz ⟨.inl ⟨rfl, rfl, rfl⟩, U5.out.own1, fun q hq => by cases hq⟩ rfl U5.out.len1 0
          | true =>
            obtain ⟨ho0, hxo⟩ : go = cs ∧ encS cs t = xo := by simpa using EO.out
            subst ho0
            have HXX : Hd (encS _ t = xo) := ⟨hxo⟩
            clear hxo
            go_wp2_with fail
            refine bodyPost_ret (results_row_tmp rfl _ _ w.heap.size _ _ (0, 0) _ rfl (set7 _ _ _ _ _ _ _ U5.out.res) Tryz.underlying29 rfl (by kernel_rfl)) rfl ?_
            rw [(rowV_both HF.out (by omega) HOO.out HXX.out HU.out).1, (rowV_both HF.out (by omega) HOO.out HXX.out HU.out).2]
            exact rowTup_of U5.out.bel U5.out.sz ⟨U5.out.own2, U5.out.own1, U5.out.ne⟩ U5.out.len2 U5.out.len1 0
        · go_wp2_with fail
          refine bodyPost_ret (results_row_tmp rfl _ _ w.heap.size _ _ (0, 0) _ rfl (set7 _ _ _ _ _ _ _ U5.out.res) Tryz.underlying29 rfl (by kernel_rfl)) rfl ?_
          rw [(rowV_new HF.out (by omega) HU.out).1, (rowV_new HF.out (by omega) HU.out).2]
          exact rowTup_of U5.out.bel U5.out.sz ⟨.inl ⟨rfl, rfl, rfl⟩, U5.out.own1, fun q hq => by cases hq⟩ rfl U5.out.len1 0
        · go_wp2_with fail
          refine bodyPost_ret (results_row_tmp rfl _ _ w.heap.size _ _ (0, 0) _ rfl (set7 _ _ _ _ _ _ _ U5.out.res) Tryz.underlying29 rfl (by kernel_rfl)) rfl ?_
          rw [(rowV_new HF.out (by omega) HU.out).1, (rowV_new HF.out (by omega) HU.out).2]
          exact rowTup_of U5.out.bel U5.out.sz ⟨.inl ⟨rfl, rfl, rfl⟩, U5.out.own1, fun q hq => by cases hq⟩ rfl U5.out.len1 0
        · cases oo with
          | false =>
            go_wp2_with fail
            refine bodyPost_ret (results_row_tmp rfl _ _ w.heap.size _ _ (0, 0) _ rfl (set7 _ _ _ _ _ _ _ U5.out.res) Tryz.underlying29 rfl (by kernel_rfl)) rfl ?_
            rw [(rowV_aside HF.out (by omega) HOO.out HU.out).1, (rowV_aside HF.out (by omega) HOO.out HU.out).2]
            exact rowTup_of U5.out.bel U5.out.sz ⟨.inl ⟨rfl, rfl, rfl⟩, U5.out.own1, fun q hq => by cases hq⟩ rfl U5.out.len1 0
          | true =>
            obtain ⟨ho0, hxo⟩ : go = cs ∧ encS cs t = xo := by simpa using EO.out
            subst ho0
            have HXX : Hd (encS _ t = xo) := ⟨hxo⟩
            clear hxo
            go_wp2_with fail
            refine bodyPost_ret (results_row_tmp rfl _ _ w.heap.size _ _ (0, 0) _ rfl (set7 _ _ _ _ _ _ _ U5.out.res) Tryz.underlying29 rfl (by kernel_rfl)) rfl ?_
            rw [(rowV_old HF.out (by omega) HOO.out HXX.out).1, (rowV_old HF.out (by omega) HOO.out HXX.out).2]
            exact rowTup_of U5.out.bel U5.out.sz ⟨U5.out.own2, .inl ⟨rfl, rfl, rfl⟩, fun q hq h2 => by cases h2⟩ U5.out.len2 rfl 0
        · cases oo with
          | false =>
            go_wp2_with fail
            refine bodyPost_ret (results_row_tmp rfl _ _ w.heap.size _ _ (0, 0) _ rfl (set7 _ _ _ _ _ _ _ U5.out.res) Tryz.underlying29 rfl (by kernel_rfl)) rfl ?_
            rw [(rowV_unfit HF.out (by omega) HOO.out).1, (rowV_unfit HF.out (by omega) HOO.out).2]
            exact rowTup_of U5.out.bel U5.out.sz ⟨.inl ⟨rfl, rfl, rfl⟩, .inl ⟨rfl, rfl, rfl⟩, fun q hq => by cases hq⟩ rfl rfl 3
          | true =>
            obtain ⟨ho0, hxo⟩ : go = cs ∧ encS cs t = xo := by simpa using EO.out
            subst ho0
            have HXX : Hd (encS _ t = xo) := ⟨hxo⟩
            clear hxo
            go_wp2_with fail
            refine bodyPost_ret (results_row_tmp rfl _ _ w.heap.size _ _ (0, 0) _ rfl (set7 _ _ _ _ _ _ _ U5.out.res) Tryz.underlying29 rfl (by kernel_rfl)) rfl ?_
            rw [(rowV_old HF.out (by omega) HOO.out HXX.out).1, (rowV_old HF.out (by omega) HOO.out HXX.out).2]
            exact rowTup_of U5.out.bel U5.out.sz ⟨U5.out.own2, .inl ⟨rfl, rfl, rfl⟩, fun q hq h2 => by cases h2⟩ U5.out.len2 rfl 0

end Go.Proofs.YtpafjehphajbhaaGreatDoor
