/- Contract: lists of marks that are alike, in the program. -/
import Derived.Test.YtfgicjglinmclabSameC
import Derived.Test.YtfgicjglinmclabDpMarkS
namespace Go.Proofs.Ytfgicjglinmclab
set_option maxRecDepth 4000
open Go.RowKit

set_option maxHeartbeats 4000000 in
theorem equalMarks_any (a1 : Option Addr) (n1 c1 : Nat) (a2 : Option Addr) (n2 c2 : Nat) (l m : List MarkD) (w : World) (h1 : RcMarkS w [.slice a1 n1 c1] l) (h2 : RcMarkS w [.slice a2 n2 c2] m) :
    Calls Try.prog 34 #[.slice a1 n1 c1, .slice a2 n2 c2] w fun e w' => e = .returned (.bool ((l.length == m.length) && allB sMark l m)) ∧ Below w.heap.size w w' := by
  have HL : Hd (RcMarkS w [.slice a1 n1 c1] l ∧ RcMarkS w [.slice a2 n2 c2] m) := ⟨h1, h2⟩
  obtain ⟨hl1, hm1⟩ := rdS_len h1
  obtain ⟨hl2, hm2⟩ := rdS_len h2
  have hm1' : n1 ≤ 9223372036854775807 := by unfold maxLen at hm1; exact hm1
  clear h1 h2 hm1 hm2
  by_cases hn : n1 = n2
  rotate_left
  · have e : (l.length == m.length) = false := by rw [hl1, hl2]; simp [hn]
    have e2 : ((n1 : Int) != (n2 : Int)) = true := by simp; omega
    rw [e]
    clear e hl1 hl2
    go_enter Try.func34, Try.ntmps34
    go_wp2_with fail
    go_ret
    exact ⟨rfl, Below.refl _ w⟩
  subst hn
  have e : (l.length == m.length) = true := by rw [hl1, hl2]; simp
  have e2 : ((n1 : Int) != (n1 : Int)) = false := by simp
  rw [e, Bool.true_and]
  obtain ⟨R, hR⟩ : ∃ R, allB sMark l m = R := ⟨_, rfl⟩
  rw [hR]
  have HN : Hd (l.length = n1 ∧ m.length = n1 ∧ allB sMark (l.drop 0) (m.drop 0) = R) := ⟨hl1, hl2, hR⟩
  clear e hl1 hl2 hR
  go_enter Try.func34, Try.ntmps34
  go_wp2_with fail
  go_loopw [13] (fun i wr => ∃ k : Nat, k ≤ n1 ∧ i = .int .i64 k ∧ Hd (allB sMark (l.drop k) (m.drop k) = R) ∧ Hd (Below w.heap.size w wr)) (fun i _ => n1 - (intOf i).toNat)
  case atStart => exact ⟨0, Nat.zero_le _, rfl, ⟨HN.out.2.2⟩, ⟨Below.refl _ _⟩⟩
  case round =>
    obtain ⟨k, hk, rfl, HK, HB⟩ := hrel
    by_cases hlt : k < n1
    · have hlt' : (k : Int) < (n1 : Int) := by omega
      have h0 : (0 : Int) ≤ (k : Int) := by omega
      obtain ⟨a, ha⟩ := get_some (l := l) (j := k) (by rw [HN.out.1]; exact hlt)
      obtain ⟨b, hb⟩ := get_some (l := m) (j := k) (by rw [HN.out.2.1]; exact hlt)
      have HE : Hd (R = (sMark a b && allB sMark (l.drop (k + 1)) (m.drop (k + 1)))) := ⟨by rw [← HK.out]; exact allB_at ha hb⟩
      obtain ⟨q1, o1, k1, e1, _, r1, z1⟩ := rdS_get HL.out.1 ha
      obtain ⟨q2, o2, k2, e2', _, r2, z2⟩ := rdS_get HL.out.2 hb
      subst e1 e2'
      obtain ⟨l0, l1, l2⟩ := a
      obtain ⟨p0, p1, p2⟩ := b
      simp only [RcMark] at r1 r2
      subst r1 r2
      have t0 := cell_below (z1 0 _ rfl) HB.out
      have t1 := cell_below (z1 1 _ rfl) HB.out
      have t2 := cell_below (z1 2 _ rfl) HB.out
      have u0 := cell_below (z2 0 _ rfl) HB.out
      have u1 := cell_below (z2 1 _ rfl) HB.out
      have u2 := cell_below (z2 2 _ rfl) HB.out
      simp only [Nat.add_zero] at t0 u0
      have BD : ∀ n, Hd (Below w.heap.size w (wr.drewN n)) := fun n => ⟨HB.out.trans (below_drewN' _ _ _)⟩
      clear ha hb z1 z2
      by_cases hq : (l0 = p0 ∧ l1 = p1) ∧ l2 = p2
      · obtain ⟨⟨rfl, rfl⟩, rfl⟩ := hq
        have HF : Hd (allB sMark (l.drop (k + 1)) (m.drop (k + 1)) = R) := ⟨by rw [HE.out, show sMark ⟨l0, l1, l2⟩ ⟨l0, l1, l2⟩ = true from by simp [sMark], Bool.true_and]⟩
        clear HE
        go_wp2_with fail
        go_quiet (fail)
        go_wp2_with fail
        go_roundw
        case rel => exact ⟨k + 1, by omega, by go_num, HF, BD _⟩
        case measure => simp [intOf]; omega
      · have HF : Hd (R = false) := ⟨by
          rw [HE.out, show sMark ⟨l0, l1, l2⟩ ⟨p0, p1, p2⟩ = false from by
            cases hx : sMark ⟨l0, l1, l2⟩ ⟨p0, p1, p2⟩ with
            | false => rfl
            | true => simp [sMark] at hx; exact absurd hx hq, Bool.false_and]⟩
        clear HE
        have hq2 : l0 = p0 → l1 = p1 → ¬ l2 = p2 := fun a b c => hq ⟨⟨a, b⟩, c⟩
        clear hq
        by_cases g0 : l0 = p0
        · by_cases g1 : l1 = p1
          · have g2 := hq2 g0 g1
            clear hq2
            subst g0 g1
            go_wp2_with fail
            go_quiet (fail)
            go_wp2_with fail
            go_ret
            exact ⟨by rw [HF.out]; rfl, (BD _).out⟩
          · clear hq2
            subst g0
            go_wp2_with fail
            go_quiet (fail)
            go_wp2_with fail
            go_ret
            exact ⟨by rw [HF.out]; rfl, (BD _).out⟩
        · clear hq2
          go_wp2_with fail
          go_quiet (fail)
          go_wp2_with fail
          go_ret
          exact ⟨by rw [HF.out]; rfl, (BD _).out⟩
    · have HF : Hd (R = true) := ⟨by rw [← HK.out]; exact allB_end (by have := HN.out.1; omega)⟩
      go_wp2_with fail
      go_ret
      exact ⟨by rw [HF.out]; rfl, HB.out⟩

end Go.Proofs.Ytfgicjglinmclab
