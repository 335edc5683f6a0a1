/- Contract: SameTab of the specification. -/
import Derived.Test.YtfgicjglinmclabSameRS
import Derived.Test.YtfgicjglinmclabDpTab
namespace Go.Proofs.Ytfgicjglinmclab
set_option maxRecDepth 4000
open Go.RowKit

set_option maxHeartbeats 8000000 in
theorem specSameTab_rd (cs1 cs2 : List Value) (a b : TabD) (w : World) (h1 : RcTab w cs1 a) (h2 : RcTab w cs2 b) (_hw1 : wtTab a ≤ 1073741824) (_hw2 : wtTab b ≤ 1073741824) :
    Calls Try.prog 14 #[.agg cs1.toArray, .agg cs2.toArray] w fun e w' => e = .returned (.bool (sameTab a b)) ∧ Below w.heap.size w w' := by
  obtain ⟨l0, l1, l2⟩ := a
  obtain ⟨p0, p1, p2⟩ := b
  simp only [RcTab] at h1 h2
  obtain ⟨x0, m0, d0, x2, m2, d2, rfl, r1, r2⟩ := h1
  obtain ⟨y0, n0, e0, y2, n2, e2, rfl, s1, s2⟩ := h2
  have HL : Hd ((RcRowS w [.slice x0 m0 d0] l0 ∧ RcMarkS w [.slice x2 m2 d2] l2) ∧ RcRowS w [.slice y0 n0 e0] p0 ∧ RcMarkS w [.slice y2 n2 e2] p2) := ⟨⟨r1, r2⟩, s1, s2⟩
  obtain ⟨hl1, hm1⟩ := rdS_len r1
  obtain ⟨hl2, hm2⟩ := rdS_len r2
  obtain ⟨hl3, hm3⟩ := rdS_len s1
  obtain ⟨hl4, hm4⟩ := rdS_len s2
  have i1 : m0 ≤ 9223372036854775807 := by unfold maxLen at hm1; exact hm1
  have i2 : m2 ≤ 9223372036854775807 := by unfold maxLen at hm2; exact hm2
  obtain ⟨r, hr⟩ : ∃ r, sameTab ⟨l0, l1, l2⟩ ⟨p0, p1, p2⟩ = r := ⟨_, rfl⟩
  have HR : Hd (r = (((m0 == n0) && allB sRow l0 p0) && (l1 == p1) && ((m2 == n2) && allB sMark l2 p2))) := ⟨by rw [← hr, ← hl1, ← hl2, ← hl3, ← hl4]; rfl⟩
  rw [hr]
  clear r1 r2 s1 s2 hm1 hm2 hm3 hm4 hr
  by_cases hA : m0 = n0
  rotate_left
  · have e3 : ((m0 : Int) != (n0 : Int)) = true := by simp; omega
    have HF : Hd (r = false) := ⟨by rw [HR.out, show (m0 == n0) = false from by simp [hA]]; rfl⟩
    clear hl1 hl2 hl3 hl4 hA
    go_enter Try.func14, Try.ntmps14
    go_wp2_with fail
    go_ret
    exact ⟨by rw [HF.out]; rfl, below_lit2 w _ _⟩
  subst hA
  have e3 : ((m0 : Int) != (m0 : Int)) = false := by simp
  by_cases hP : l1 = p1
  rotate_left
  · have e4 : (l1 != p1) = true := by simp [hP]
    have HF : Hd (r = false) := ⟨by rw [HR.out, show (l1 == p1) = false from by simp [hP]]; simp⟩
    clear hl1 hl2 hl3 hl4 hP
    go_enter Try.func14, Try.ntmps14
    go_wp2_with fail
    go_ret
    exact ⟨by rw [HF.out]; rfl, below_lit2 w _ _⟩
  subst hP
  have e4 : (l1 != l1) = false := by simp
  by_cases hM : m2 = n2
  rotate_left
  · have e5 : ((m2 : Int) != (n2 : Int)) = true := by simp; omega
    have HF : Hd (r = false) := ⟨by rw [HR.out, show (m2 == n2) = false from by simp [hM]]; simp⟩
    clear hl1 hl2 hl3 hl4 hM
    go_enter Try.func14, Try.ntmps14
    go_wp2_with fail
    go_ret
    exact ⟨by rw [HF.out]; rfl, below_lit2 w _ _⟩
  subst hM
  have e5 : ((m2 : Int) != (m2 : Int)) = false := by simp
  obtain ⟨R1, hR1⟩ : ∃ R, allB sRow l0 p0 = R := ⟨_, rfl⟩
  obtain ⟨R2, hR2⟩ : ∃ R, allB sMark l2 p2 = R := ⟨_, rfl⟩
  have HE : Hd (r = (R1 && R2)) := ⟨by rw [HR.out, hR1, hR2]; simp⟩
  have HN : Hd ((l0.length = m0 ∧ p0.length = m0 ∧ allB sRow (l0.drop 0) (p0.drop 0) = R1) ∧ l2.length = m2 ∧ p2.length = m2 ∧ allB sMark (l2.drop 0) (p2.drop 0) = R2) := ⟨⟨hl1, hl3, hR1⟩, hl2, hl4, hR2⟩
  clear hl1 hl2 hl3 hl4 hR1 hR2 HR
  go_enter Try.func14, Try.ntmps14
  go_wp2_with fail
  obtain ⟨W0, hW0⟩ : ∃ W, (w.alloc (.cells #[Value.slice x0 m0 d0, Value.int IntKind.i64 l1, Value.slice x2 m2 d2] 32)).alloc (.cells #[Value.slice y0 m0 e0, Value.int IntKind.i64 l1, Value.slice y2 m2 e2] 32) = W := ⟨_, rfl⟩
  obtain ⟨q1, q2⟩ := laid2 w (.cells #[Value.slice x0 m0 d0, Value.int IntKind.i64 l1, Value.slice x2 m2 d2] 32) (.cells #[Value.slice y0 m0 e0, Value.int IntKind.i64 l1, Value.slice y2 m2 e2] 32)
  rw [hW0] at q1 q2
  have KA : Hd (W0.heap[w.heap.size]? = some (.cells #[Value.slice x0 m0 d0, Value.int IntKind.i64 l1, Value.slice x2 m2 d2] 32 (0, 0))) := ⟨q1⟩
  have KB : Hd (W0.heap[w.heap.size + 1]? = some (.cells #[Value.slice y0 m0 e0, Value.int IntKind.i64 l1, Value.slice y2 m2 e2] 32 (0, 0))) := ⟨q2⟩
  have B0 : Hd (Below w.heap.size w W0) := ⟨by rw [← hW0]; exact below_lit2 w _ _⟩
  rewrite [hW0]
  clear q1 q2 hW0 e3 e4 e5
  go_loopw [5] (fun i wr => ∃ k : Nat, k ≤ m0 ∧ i = .int .i64 k ∧ Hd (allB sRow (l0.drop k) (p0.drop k) = R1) ∧ Hd (Below W0.heap.size W0 wr)) (fun i _ => m0 - (intOf i).toNat)
  case atStart => exact ⟨0, Nat.zero_le _, rfl, ⟨HN.out.1.2.2⟩, ⟨Below.refl _ _⟩⟩
  case round =>
    obtain ⟨k, hk, rfl, HK, HB⟩ := hrel
    have BW : Hd (Below w.heap.size w wr) := ⟨Below.next B0.out HB.out⟩
    have c0 := cell_below (cellsA KA.out 0 rfl) HB.out
    have g0 := cell_below (cellsA KB.out 0 rfl) HB.out
    by_cases hlt : k < m0
    · have hlt' : (k : Int) < (m0 : Int) := by omega
      have h0 : (0 : Int) ≤ (k : Int) := by omega
      obtain ⟨a, ha⟩ := get_some (l := l0) (j := k) (by rw [HN.out.1.1]; exact hlt)
      obtain ⟨b, hb⟩ := get_some (l := p0) (j := k) (by rw [HN.out.1.2.1]; exact hlt)
      have HS : Hd (R1 = (sRow a b && allB sRow (l0.drop (k + 1)) (p0.drop (k + 1)))) := ⟨by rw [← HK.out]; exact allB_at ha hb⟩
      obtain ⟨q1, o1, k1, e1, _, r1, z1⟩ := rdS_get HL.out.1.1 ha
      obtain ⟨q2, o2, k2, e2', _, r2, z2⟩ := rdS_get HL.out.2.1 hb
      subst e1 e2'
      replace r1 := rcRow_ok.below r1 BW.out
      replace r2 := rcRow_ok.below r2 BW.out
      have Q : Hd (RcRow wr k1 a ∧ RcRow wr k2 b) := ⟨r1, r2⟩
      obtain ⟨a0, a1, a2, a3, a4, a5, a6⟩ := a
      obtain ⟨b0, b1, b2, b3, b4, b5, b6⟩ := b
      obtain ⟨x12, x13, x14, x22, x23, x24, rfl, _⟩ := r1
      obtain ⟨y12, y13, y14, y22, y23, y24, rfl, _⟩ := r2
      have t0 := cell_below (z1 0 _ rfl) BW.out
      have u0 := cell_below (z2 0 _ rfl) BW.out
      have t1 := cell_below (z1 1 _ rfl) BW.out
      have u1 := cell_below (z2 1 _ rfl) BW.out
      have t2 := cell_below (z1 2 _ rfl) BW.out
      have u2 := cell_below (z2 2 _ rfl) BW.out
      have t3 := cell_below (z1 3 _ rfl) BW.out
      have u3 := cell_below (z2 3 _ rfl) BW.out
      have t4 := cell_below (z1 4 _ rfl) BW.out
      have u4 := cell_below (z2 4 _ rfl) BW.out
      have t5 := cell_below (z1 5 _ rfl) BW.out
      have u5 := cell_below (z2 5 _ rfl) BW.out
      have t6 := cell_below (z1 6 _ rfl) BW.out
      have u6 := cell_below (z2 6 _ rfl) BW.out
      simp only [Nat.add_zero] at t0 u0
      obtain ⟨s, hs⟩ : ∃ s, sRow ⟨a0, a1, a2, a3, a4, a5, a6⟩ ⟨b0, b1, b2, b3, b4, b5, b6⟩ = s := ⟨_, rfl⟩
      have HSS : Hd (sRow ⟨a0, a1, a2, a3, a4, a5, a6⟩ ⟨b0, b1, b2, b3, b4, b5, b6⟩ = s) := ⟨hs⟩
      rw [hs] at HS
      clear ha hb z1 z2 hs
      go_wp2_with fail
      have KK : Hd (∀ w', Below wr.heap.size wr w' → (w'.cell? ⟨w.heap.size, 0, none⟩ = some (.slice (some ⟨q1, o1, none⟩) m0 d0) ∧ w'.cell? ⟨w.heap.size + 1, 0, none⟩ = some (.slice (some ⟨q2, o2, none⟩) m0 e0) ∧ w'.cell? ⟨q1, o1 + k * 7, none⟩ = some (.string a0) ∧ w'.cell? ⟨q1, o1 + k * 7 + 1, none⟩ = some (.int .i64 a1) ∧ w'.cell? ⟨q1, o1 + k * 7 + 2, none⟩ = some (.slice x12 x13 x14) ∧ w'.cell? ⟨q1, o1 + k * 7 + 3, none⟩ = some (.int .i64 a3) ∧ w'.cell? ⟨q1, o1 + k * 7 + 4, none⟩ = some (.slice x22 x23 x24) ∧ w'.cell? ⟨q1, o1 + k * 7 + 5, none⟩ = some (.int .i64 a5) ∧ w'.cell? ⟨q1, o1 + k * 7 + 6, none⟩ = some (.bool a6) ∧ w'.cell? ⟨q2, o2 + k * 7, none⟩ = some (.string b0) ∧ w'.cell? ⟨q2, o2 + k * 7 + 1, none⟩ = some (.int .i64 b1) ∧ w'.cell? ⟨q2, o2 + k * 7 + 2, none⟩ = some (.slice y12 y13 y14) ∧ w'.cell? ⟨q2, o2 + k * 7 + 3, none⟩ = some (.int .i64 b3) ∧ w'.cell? ⟨q2, o2 + k * 7 + 4, none⟩ = some (.slice y22 y23 y24) ∧ w'.cell? ⟨q2, o2 + k * 7 + 5, none⟩ = some (.int .i64 b5) ∧ w'.cell? ⟨q2, o2 + k * 7 + 6, none⟩ = some (.bool b6))) := ⟨fun w' hb => ⟨cell_below c0 hb, cell_below g0 hb, cell_below t0 hb, cell_below t1 hb, cell_below t2 hb, cell_below t3 hb, cell_below t4 hb, cell_below t5 hb, cell_below t6 hb, cell_below u0 hb, cell_below u1 hb, cell_below u2 hb, cell_below u3 hb, cell_below u4 hb, cell_below u5 hb, cell_below u6 hb⟩⟩
      have D0 : Hd (Below wr.heap.size wr wr.drew) := ⟨(Below.refl _ wr).drew⟩
      go_region_held (fun w' => w'.cell? ⟨w.heap.size, 0, none⟩ = some (.slice (some ⟨q1, o1, none⟩) m0 d0) ∧ w'.cell? ⟨w.heap.size + 1, 0, none⟩ = some (.slice (some ⟨q2, o2, none⟩) m0 e0) ∧ w'.cell? ⟨q1, o1 + k * 7, none⟩ = some (.string a0) ∧ w'.cell? ⟨q1, o1 + k * 7 + 1, none⟩ = some (.int .i64 a1) ∧ w'.cell? ⟨q1, o1 + k * 7 + 2, none⟩ = some (.slice x12 x13 x14) ∧ w'.cell? ⟨q1, o1 + k * 7 + 3, none⟩ = some (.int .i64 a3) ∧ w'.cell? ⟨q1, o1 + k * 7 + 4, none⟩ = some (.slice x22 x23 x24) ∧ w'.cell? ⟨q1, o1 + k * 7 + 5, none⟩ = some (.int .i64 a5) ∧ w'.cell? ⟨q1, o1 + k * 7 + 6, none⟩ = some (.bool a6) ∧ w'.cell? ⟨q2, o2 + k * 7, none⟩ = some (.string b0) ∧ w'.cell? ⟨q2, o2 + k * 7 + 1, none⟩ = some (.int .i64 b1) ∧ w'.cell? ⟨q2, o2 + k * 7 + 2, none⟩ = some (.slice y12 y13 y14) ∧ w'.cell? ⟨q2, o2 + k * 7 + 3, none⟩ = some (.int .i64 b3) ∧ w'.cell? ⟨q2, o2 + k * 7 + 4, none⟩ = some (.slice y22 y23 y24) ∧ w'.cell? ⟨q2, o2 + k * 7 + 5, none⟩ = some (.int .i64 b5) ∧ w'.cell? ⟨q2, o2 + k * 7 + 6, none⟩ = some (.bool b6)) (first | (with_reducible exact KK.out _ D1.out) | (with_reducible exact KK.out _ D0.out))
        (first | (go_at_call 31; refine (specSameRow_rd _ _ ⟨a0, a1, a2, a3, a4, a5, a6⟩ ⟨b0, b1, b2, b3, b4, b5, b6⟩ _ (rcRow_ok.below Q.out.1 D0.out) (rcRow_ok.below Q.out.2 D0.out)).mono ?_; rintro e w1 ⟨rfl, hB⟩; rewrite [HSS.out]; have D1 : Hd (Below wr.heap.size wr w1) := ⟨Below.next D0.out hB⟩; clear hB))
      have HB1 : Hd (Below W0.heap.size W0 w1) := ⟨Below.next HB.out D1.out⟩
      have BW1 : Hd (Below w.heap.size w w1) := ⟨Below.next BW.out D1.out⟩
      clear KK D0 D1 Q HB HSS c0 g0 t0 t1 t2 t3 t4 t5 t6 u0 u1 u2 u3 u4 u5 u6
      cases s
      · have HF : Hd (r = false) := ⟨by rw [HE.out, HS.out]; rfl⟩
        clear HS
        go_wp2_with fail
        go_ret
        exact ⟨by rw [HF.out]; rfl, BW1.out⟩
      · have HF : Hd (allB sRow (l0.drop (k + 1)) (p0.drop (k + 1)) = R1) := ⟨by rw [HS.out, Bool.true_and]⟩
        clear HS
        go_wp2_with fail
        go_roundw
        case rel => exact ⟨k + 1, by omega, by go_num, HF, HB1⟩
        case measure => simp [intOf]; omega
    · obtain rfl : R1 = true := by rw [← HK.out]; exact allB_end (by have := HN.out.1.1; omega)
      have HE2 : Hd (r = R2) := ⟨by rw [HE.out]; rfl⟩
      clear HE HK
      go_wp2_with fail
      clear c0 g0
      have KA1 : Hd (wr.heap[w.heap.size]? = some (.cells #[Value.slice x0 m0 d0, Value.int IntKind.i64 l1, Value.slice x2 m2 d2] 32 (0, 0))) := ⟨(HB.out.block _ (block_lt KA.out)).trans KA.out⟩
      have KB1 : Hd (wr.heap[w.heap.size + 1]? = some (.cells #[Value.slice y0 m0 e0, Value.int IntKind.i64 l1, Value.slice y2 m2 e2] 32 (0, 0))) := ⟨(HB.out.block _ (block_lt KB.out)).trans KB.out⟩
      clear KA KB HB
      obtain ⟨W1, hW1⟩ : ∃ W, W = wr := ⟨_, rfl⟩
      subst hW1
      go_loopw [6] (fun i ws => ∃ k : Nat, k ≤ m2 ∧ i = .int .i64 k ∧ Hd (allB sMark (l2.drop k) (p2.drop k) = R2) ∧ Hd (Below W1.heap.size W1 ws)) (fun i _ => m2 - (intOf i).toNat)
      case atStart => exact ⟨0, Nat.zero_le _, rfl, ⟨HN.out.2.2.2⟩, ⟨Below.refl _ _⟩⟩
      case round =>
        obtain ⟨k, hk, rfl, HK, HB⟩ := hrel
        have BS : Hd (Below w.heap.size w wr) := ⟨Below.next BW.out HB.out⟩
        have c2 := cell_below (cellsA KA1.out 2 rfl) HB.out
        have g2 := cell_below (cellsA KB1.out 2 rfl) HB.out
        by_cases hlt : k < m2
        · have hlt' : (k : Int) < (m2 : Int) := by omega
          have h0 : (0 : Int) ≤ (k : Int) := by omega
          obtain ⟨a, ha⟩ := get_some (l := l2) (j := k) (by rw [HN.out.2.1]; exact hlt)
          obtain ⟨b, hb⟩ := get_some (l := p2) (j := k) (by rw [HN.out.2.2.1]; exact hlt)
          have HS : Hd (R2 = (sMark a b && allB sMark (l2.drop (k + 1)) (p2.drop (k + 1)))) := ⟨by rw [← HK.out]; exact allB_at ha hb⟩
          obtain ⟨q1, o1, k1, e1, _, r1, z1⟩ := rdS_get HL.out.1.2 ha
          obtain ⟨q2, o2, k2, e2', _, r2, z2⟩ := rdS_get HL.out.2.2 hb
          subst e1 e2'
          obtain ⟨a0, a1, a2⟩ := a
          obtain ⟨b0, b1, b2⟩ := b
          simp only [RcMark] at r1 r2
          subst r1 r2
          have t0 := cell_below (z1 0 _ rfl) BS.out
          have t1 := cell_below (z1 1 _ rfl) BS.out
          have t2 := cell_below (z1 2 _ rfl) BS.out
          have u0 := cell_below (z2 0 _ rfl) BS.out
          have u1 := cell_below (z2 1 _ rfl) BS.out
          have u2 := cell_below (z2 2 _ rfl) BS.out
          simp only [Nat.add_zero] at t0 u0
          have BD : ∀ n, Hd (Below W1.heap.size W1 (wr.drewN n)) := fun n => ⟨HB.out.trans (below_drewN' _ _ _)⟩
          clear ha hb z1 z2
          by_cases hq : (a0 = b0 ∧ a1 = b1) ∧ a2 = b2
          · obtain ⟨⟨rfl, rfl⟩, rfl⟩ := hq
            have HF : Hd (allB sMark (l2.drop (k + 1)) (p2.drop (k + 1)) = R2) := ⟨by rw [HS.out, show sMark ⟨a0, a1, a2⟩ ⟨a0, a1, a2⟩ = true from by simp [sMark], Bool.true_and]⟩
            clear HS
            go_wp2_with fail
            go_quiet (fail)
            go_wp2_with fail
            go_roundw
            case rel => exact ⟨k + 1, by omega, by go_num, HF, BD _⟩
            case measure => simp [intOf]; omega
          · have HF : Hd (r = false) := ⟨by
              rw [HE2.out, HS.out, show sMark ⟨a0, a1, a2⟩ ⟨b0, b1, b2⟩ = false from by
                cases hx : sMark ⟨a0, a1, a2⟩ ⟨b0, b1, b2⟩ with
                | false => rfl
                | true => simp [sMark] at hx; exact absurd hx hq, Bool.false_and]⟩
            clear HS
            have hq2 : a0 = b0 → a1 = b1 → ¬ a2 = b2 := fun a b c => hq ⟨⟨a, b⟩, c⟩
            clear hq
            by_cases f0 : a0 = b0
            · by_cases f1 : a1 = b1
              · have f2 := hq2 f0 f1
                clear hq2
                subst f0 f1
                go_wp2_with fail
                go_quiet (fail)
                go_wp2_with fail
                go_ret
                exact ⟨by rw [HF.out]; rfl, Below.next BW.out (BD _).out⟩
              · clear hq2
                subst f0
                go_wp2_with fail
                go_quiet (fail)
                go_wp2_with fail
                go_ret
                exact ⟨by rw [HF.out]; rfl, Below.next BW.out (BD _).out⟩
            · clear hq2
              go_wp2_with fail
              go_quiet (fail)
              go_wp2_with fail
              go_ret
              exact ⟨by rw [HF.out]; rfl, Below.next BW.out (BD _).out⟩
        · have HF : Hd (r = true) := ⟨by rw [HE2.out, ← HK.out]; exact allB_end (by have := HN.out.2.1; omega)⟩
          go_wp2_with fail
          go_ret
          exact ⟨by rw [HF.out]; rfl, BS.out⟩

end Go.Proofs.Ytfgicjglinmclab
