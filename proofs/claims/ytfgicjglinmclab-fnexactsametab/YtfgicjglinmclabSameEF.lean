/- Contract: lists of rows that are alike, in the program. -/
import Derived.Test.YtfgicjglinmclabSameRI
import Derived.Test.YtfgicjglinmclabDpRowS
namespace Go.Proofs.Ytfgicjglinmclab
set_option maxRecDepth 4000
open Go.RowKit

set_option maxHeartbeats 4000000 in
theorem equalFunc_any (a1 : Option Addr) (n1 c1 : Nat) (a2 : Option Addr) (n2 c2 : Nat) (l m : List RowD) (w : World) (h1 : RcRowS w [.slice a1 n1 c1] l) (h2 : RcRowS w [.slice a2 n2 c2] m) :
    Calls Try.prog 32 #[.slice a1 n1 c1, .slice a2 n2 c2, .func (.func 33) #[] #[]] w fun e w' => e = .returned (.bool ((l.length == m.length) && allB sRow l m)) ∧ Below w.heap.size w w' := by
  have HL : Hd (RcRowS w [.slice a1 n1 c1] l ∧ RcRowS w [.slice a2 n2 c2] m) := ⟨h1, h2⟩
  obtain ⟨hl1, hm1⟩ := rdS_len h1
  obtain ⟨hl2, hm2⟩ := rdS_len h2
  have hm1' : n1 ≤ 9223372036854775807 := by unfold maxLen at hm1; exact hm1
  clear h1 h2 hm1 hm2
  by_cases hn : n1 = n2
  rotate_left
  · have e : (l.length == m.length) = false := by rw [hl1, hl2]; simp [hn]
    have e2 : ((n1 : Int) != (n2 : Int)) = true := by simp; omega
    rw [e]
    clear e hl1 hl2
    go_enter Try.func32, Try.ntmps32
    go_wp2_with fail
    go_ret
    exact ⟨rfl, Below.refl _ w⟩
  subst hn
  have e : (l.length == m.length) = true := by rw [hl1, hl2]; simp
  have e2 : ((n1 : Int) != (n1 : Int)) = false := by simp
  rw [e, Bool.true_and]
  obtain ⟨R, hR⟩ : ∃ R, allB sRow l m = R := ⟨_, rfl⟩
  rw [hR]
  have HN : Hd (l.length = n1 ∧ m.length = n1 ∧ allB sRow (l.drop 0) (m.drop 0) = R) := ⟨hl1, hl2, hR⟩
  clear e hl1 hl2 hR
  go_enter Try.func32, Try.ntmps32
  go_wp2_with fail
  go_loopw [17] (fun i wr => ∃ k : Nat, k ≤ n1 ∧ i = .int .i64 k ∧ Hd (allB sRow (l.drop k) (m.drop k) = R) ∧ Hd (Below w.heap.size w wr)) (fun i _ => n1 - (intOf i).toNat)
  case atStart => exact ⟨0, Nat.zero_le _, rfl, ⟨HN.out.2.2⟩, ⟨Below.refl _ _⟩⟩
  case round =>
    obtain ⟨k, hk, rfl, HK, HB⟩ := hrel
    by_cases hlt : k < n1
    · have hlt' : (k : Int) < (n1 : Int) := by omega
      have h0 : (0 : Int) ≤ (k : Int) := by omega
      obtain ⟨a, ha⟩ := get_some (l := l) (j := k) (by rw [HN.out.1]; exact hlt)
      obtain ⟨b, hb⟩ := get_some (l := m) (j := k) (by rw [HN.out.2.1]; exact hlt)
      have HE : Hd (R = (sRow a b && allB sRow (l.drop (k + 1)) (m.drop (k + 1)))) := ⟨by rw [← HK.out]; exact allB_at ha hb⟩
      obtain ⟨q1, o1, k1, e1, _, r1, z1⟩ := rdS_get HL.out.1 ha
      obtain ⟨q2, o2, k2, e2', _, r2, z2⟩ := rdS_get HL.out.2 hb
      subst e1 e2'
      replace r1 := rcRow_ok.below r1 HB.out
      replace r2 := rcRow_ok.below r2 HB.out
      have Q : Hd (RcRow wr k1 a ∧ RcRow wr k2 b) := ⟨r1, r2⟩
      obtain ⟨l0, l1, l2, l3, l4, l5, l6⟩ := a
      obtain ⟨p0, p1, p2, p3, p4, p5, p6⟩ := b
      obtain ⟨x2, m2, d2, x4, m4, d4, rfl, _⟩ := r1
      obtain ⟨y2, n2, e2'', y4, n4, e4, rfl, _⟩ := r2
      have t0 := cell_below (z1 0 _ rfl) HB.out
      have t1 := cell_below (z1 1 _ rfl) HB.out
      have t2 := cell_below (z1 2 _ rfl) HB.out
      have t3 := cell_below (z1 3 _ rfl) HB.out
      have t4 := cell_below (z1 4 _ rfl) HB.out
      have t5 := cell_below (z1 5 _ rfl) HB.out
      have t6 := cell_below (z1 6 _ rfl) HB.out
      simp only [Nat.add_zero] at t0
      have KR : Hd (∀ i v, ([Value.string p0, .int .i64 p1, .slice y2 n2 e2'', .int .i64 p3, .slice y4 n4 e4, .int .i64 p5, .bool p6] : List Value)[i]? = some v → (wr.alloc (.cells #[Value.string l0, .int .i64 l1, .slice x2 m2 d2, .int .i64 l3, .slice x4 m4 d4, .int .i64 l5, .bool l6] 46)).cell? ⟨q2, o2 + k * 7 + i, none⟩ = some v) := ⟨fun i v hv => cell_below (cell_below (z2 i v hv) HB.out) (below_lit wr _)⟩
      have u0 := KR.out 0 _ rfl
      have u1 := KR.out 1 _ rfl
      have u2 := KR.out 2 _ rfl
      have u3 := KR.out 3 _ rfl
      have u4 := KR.out 4 _ rfl
      have u5 := KR.out 5 _ rfl
      have u6 := KR.out 6 _ rfl
      simp only [Nat.add_zero] at u0
      obtain ⟨s, hs⟩ : ∃ s, sRow ⟨l0, l1, l2, l3, l4, l5, l6⟩ ⟨p0, p1, p2, p3, p4, p5, p6⟩ = s := ⟨_, rfl⟩
      have HS : Hd (sRow ⟨l0, l1, l2, l3, l4, l5, l6⟩ ⟨p0, p1, p2, p3, p4, p5, p6⟩ = s) := ⟨hs⟩
      rw [hs] at HE
      clear ha hb z1 z2 hs KR
      go_wp2_with fail
      refine (implSameRow_rd _ _ ⟨l0, l1, l2, l3, l4, l5, l6⟩ ⟨p0, p1, p2, p3, p4, p5, p6⟩ _ (rcRow_ok.below Q.out.1 (below_lit2 _ _ _)) (rcRow_ok.below Q.out.2 (below_lit2 _ _ _))).mono ?_
      rintro e w1 ⟨rfl, hb⟩
      rewrite [HS.out]
      have HB1 : Hd (Below w.heap.size w w1) := ⟨Below.next (Below.next HB.out (below_lit2 _ _ _)) hb⟩
      clear hb Q HB t0 t1 t2 t3 t4 t5 t6 u0 u1 u2 u3 u4 u5 u6 HS
      cases s
      · have HF : Hd (R = false) := ⟨HE.out⟩
        clear HE
        go_wp2_with fail
        go_ret
        exact ⟨by rw [HF.out]; rfl, HB1.out⟩
      · have HF : Hd (allB sRow (l.drop (k + 1)) (m.drop (k + 1)) = R) := ⟨by rw [HE.out, Bool.true_and]⟩
        clear HE
        go_wp2_with fail
        go_roundw
        case rel => exact ⟨k + 1, by omega, by go_num, HF, HB1⟩
        case measure => simp [intOf]; omega
    · have HF : Hd (R = true) := ⟨by rw [← HK.out]; exact allB_end (by have := HN.out.1; omega)⟩
      go_wp2_with fail
      go_ret
      exact ⟨by rw [HF.out]; rfl, HB.out⟩

end Go.Proofs.Ytfgicjglinmclab
