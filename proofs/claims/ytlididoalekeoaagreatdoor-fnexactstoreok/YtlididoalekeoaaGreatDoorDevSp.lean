/- The specification: whether a device is right. -/
import Derived.Test.YtlididoalekeoaaGreatDoorDpDev
import Derived.Test.YtlididoalekeoaaGreatDoorDevI
import Derived.BigQuiet
namespace Go.Proofs.YtlididoalekeoaaGreatDoor
set_option maxRecDepth 4000
open Go.RowKit

theorem inB_is (x lo hi : Int) : inB x lo hi = decide (lo ≤ x ∧ x ≤ hi) := by
  unfold inB
  rw [Bool.decide_and]
theorem l1In_is {x lo hi : Int} {V : Bool} (h : inB x lo hi = V) (w : World) : Calls Tryz.prog 13 #[.int .i64 x, .int .i64 lo, .int .i64 hi] w fun e w' => e = .returned (.bool V) ∧ w' = w := (l1In_any x lo hi w).mono (by rintro e w' ⟨rfl, rfl⟩; exact ⟨by rw [h], rfl⟩)
theorem wrOk_is (m : Nat) (x : WrD) : wrOk m x = (inB x.n 0 ((m : Int) - 1) && decide (x.b.length ≤ 120)) := by
  rw [inB_is]; rfl

set_option maxHeartbeats 1000000 in
theorem specDevOk_rd (cs : List Value) (d : DevD) (w : World) (h : RdDev w cs d) :
    Calls Tryz.prog 11 #[.agg cs.toArray] w fun e w' => e = .returned (.bool (devOk d)) ∧ Below w.heap.size w w' := by
  obtain ⟨x0, m0, d0, x1, m1, d1, rfl, r0, r1⟩ := h
  obtain ⟨f, hf⟩ : ∃ f, d.fuse = f := ⟨_, rfl⟩
  obtain ⟨b, hb⟩ : ∃ b, d.down = b := ⟨_, rfl⟩
  replace r0 := rdByteSS_parts r0
  replace r1 := rdWrS_parts r1
  have hok := devOk_is d r0.2.1 r1.2.1
  rw [hf] at hok ⊢
  rw [hb]
  have hm0 : m0 ≤ 9223372036854775807 := by have := r0.1; unfold maxLen at this; exact this
  have hm1 : m1 ≤ 9223372036854775807 := by have := r1.1; unfold maxLen at this; exact this
  have HL : Hd (d.secs.length = m0 ∧ d.cache.length = m1) := ⟨r0.2.1, r1.2.1⟩
  have HR0 : Hd (d.secs = [] ∨ ∃ b off, x0 = some ⟨b, off, none⟩ ∧ ∀ j a, d.secs[j]? = some a → ∃ c, c.length = 1 ∧ RdB w c a ∧ ∀ i v, c[i]? = some v → w.cell? ⟨b, off + j * 1 + i, none⟩ = some v) := ⟨r0.2.2⟩
  have HR1 : Hd (d.cache = [] ∨ ∃ b off, x1 = some ⟨b, off, none⟩ ∧ ∀ j a, d.cache[j]? = some a → ∃ c, c.length = 2 ∧ RdWr w c a ∧ ∀ i v, c[i]? = some v → w.cell? ⟨b, off + j * 2 + i, none⟩ = some v) := ⟨r1.2.2⟩
  obtain ⟨R, hR⟩ : ∃ R, devOk d = R := ⟨_, rfl⟩
  rw [hR]
  have HOK : Hd (R = (d.secs.all secOk && d.cache.all (wrOk m0) && decide (1 ≤ m0 ∧ m0 ≤ 64) && decide (m1 ≤ 40) && decide (-1 ≤ f ∧ f ≤ 1000))) := ⟨by rw [← hR]; exact hok⟩
  have hwr : wrap64 ((m0 : Int) - 1) = (m0 : Int) - 1 := wrap64_in (by omega) (by omega)
  clear r0 r1 hok hf hb hR
  go_enter Tryz.func11, Tryz.ntmps11
  go_wp2_with fail
  have HA : Hd (Below w.heap.size w (w.alloc (.cells #[.slice x0 m0 d0, .slice x1 m1 d1, .int .i64 f, .bool b] 36)) ∧ (w.alloc (.cells #[.slice x0 m0 d0, .slice x1 m1 d1, .int .i64 f, .bool b] 36)).heap[w.heap.size]? = some (.cells #[.slice x0 m0 d0, .slice x1 m1 d1, .int .i64 f, .bool b] 36 (0, 0))) := ⟨below_lit w _, heap_alloc_new w _⟩
  generalize w.alloc (.cells #[.slice x0 m0 d0, .slice x1 m1 d1, .int .i64 f, .bool b] 36) = wa at *
  go_loop [3] (fun i => ∃ k : Nat, k ≤ m0 ∧ i = .int .i64 k ∧ Hd ((d.secs.take k).all secOk = true)) (fun i => m0 - (intOf i).toNat)
  case atStart => exact ⟨0, Nat.zero_le _, rfl, ⟨rfl⟩⟩
  case round =>
    obtain ⟨k, hk, rfl, HK⟩ := hrel
    have c0 := cellsA HA.out.2 0 rfl
    by_cases hlt : k < m0
    · have hlt' : (k : Int) < (m0 : Int) := by omega
      have h0 : (0 : Int) ≤ (k : Int) := by omega
      obtain ⟨b0, o0, hx0, G⟩ : ∃ b0 o0, x0 = some ⟨b0, o0, none⟩ ∧ ∀ j a, d.secs[j]? = some a → ∃ c, c.length = 1 ∧ RdB w c a ∧ ∀ i v, c[i]? = some v → w.cell? ⟨b0, o0 + j * 1 + i, none⟩ = some v := by
        rcases HR0.out with h | h
        · have := HL.out.1; rw [h] at this; simp at this; omega
        · exact h
      subst hx0
      obtain ⟨a, ha⟩ := get_some (l := d.secs) (j := k) (by rw [HL.out.1]; exact hlt)
      obtain ⟨c, hcn, hR, hcell⟩ := G k a ha
      obtain ⟨y0, n0, e0, rfl, hm, hr⟩ := hR
      have t0 := cell_below (hcell 0 _ rfl) HA.out.1
      simp only [Nat.mul_one, Nat.add_zero] at t0
      by_cases hs : n0 ≤ 120
      · have hs' : ¬ (n0 : Int) > 120 := by omega
        have HK1 : Hd ((d.secs.take (k + 1)).all secOk = true) := ⟨all_take secOk _ k ha HK.out (decide_eq_true (by rw [hr.1]; exact hs))⟩
        clear hcell hcn ha hm hr HK G
        go_wp2
        go_round
        case rel => exact ⟨k + 1, by omega, by go_num, HK1⟩
        case measure => simp [intOf]; omega
      · have hs' : (n0 : Int) > 120 := by omega
        have HF : Hd (R = false) := ⟨by rw [HOK.out, all_not secOk ha (decide_eq_false (by rw [hr.1]; exact hs))]; rfl⟩
        clear hcell hcn ha hm hr HK G
        go_wp2
        go_ret
        exact ⟨by rw [HF.out]; rfl, HA.out.1⟩
    · have HK1 : Hd (d.secs.all secOk = true) := ⟨by have h7 := HK.out; rw [List.take_of_length_le (by have := HL.out.1; omega)] at h7; exact h7⟩
      clear HK
      go_wp2_with fail
      clear c0
      go_loopw [4] (fun i wr => ∃ k : Nat, k ≤ m1 ∧ i = .int .i64 k ∧ Hd ((d.cache.take k).all (wrOk m0) = true) ∧ Hd (Below w.heap.size w wr ∧ wr.heap[w.heap.size]? = some (.cells #[.slice x0 m0 d0, .slice x1 m1 d1, .int .i64 f, .bool b] 36 (0, 0)))) (fun i _ => m1 - (intOf i).toNat)
      case atStart => exact ⟨0, Nat.zero_le _, rfl, ⟨rfl⟩, HA⟩
      case round =>
        obtain ⟨k, hk, rfl, HK, HW⟩ := hrel
        clear HA
        have c0 := cellsA HW.out.2 0 rfl
        have c1 := cellsA HW.out.2 1 rfl
        by_cases hlt : k < m1
        · have hlt' : (k : Int) < (m1 : Int) := by omega
          have h0 : (0 : Int) ≤ (k : Int) := by omega
          obtain ⟨b1, o1, hx1, G⟩ : ∃ b1 o1, x1 = some ⟨b1, o1, none⟩ ∧ ∀ j a, d.cache[j]? = some a → ∃ c, c.length = 2 ∧ RdWr w c a ∧ ∀ i v, c[i]? = some v → w.cell? ⟨b1, o1 + j * 2 + i, none⟩ = some v := by
            rcases HR1.out with h | h
            · have := HL.out.2; rw [h] at this; simp at this; omega
            · exact h
          subst hx1
          obtain ⟨a, ha⟩ := get_some (l := d.cache) (j := k) (by rw [HL.out.2]; exact hlt)
          obtain ⟨c, hcn, hR, hcell⟩ := G k a ha
          obtain ⟨y1, n1, e1, rfl, hr⟩ := hR
          have t0 := cell_below (hcell 0 _ rfl) HW.out.1
          have t1 := cell_below (hcell 1 _ rfl) HW.out.1
          simp only [Nat.add_zero] at t0
          have hwo := wrOk_is m0 a
          rw [(rdB_parts hr).2.1] at hwo
          obtain ⟨nn, hnn⟩ : ∃ nn, a.n = nn := ⟨_, rfl⟩
          rw [hnn] at t0 hwo
          obtain ⟨V, hV⟩ : ∃ V, inB nn 0 ((m0 : Int) - 1) = V := ⟨_, rfl⟩
          rw [hV] at hwo
          have HWO : Hd (wrOk m0 a = (V && decide (n1 ≤ 120)) ∧ d.cache[k]? = some a) := ⟨hwo, ha⟩
          have HV : Hd (inB nn 0 ((m0 : Int) - 1) = V) := ⟨hV⟩
          clear hcell hcn ha hr hnn G hwo hV
          cases V with
          | false =>
            have HF : Hd (R = false) := ⟨by rw [HOK.out, all_not (wrOk m0) HWO.out.2 (by rw [HWO.out.1]; rfl)]; simp⟩
            go_wp2_with fail
            go_quiet ((go_at_call 13; exact Calls.quiet_of_same (l1In_is HV.out _)))
            go_wp2_with fail
            go_ret
            exact ⟨by rw [HF.out]; rfl, HW.out.1.trans (below_drewN' _ _ _)⟩
          | true =>
            by_cases hs : (n1 : Int) > 120
            · have hs' : decide ((n1 : Int) > 120) = true := decide_eq_true hs
              have HF : Hd (R = false) := ⟨by rw [HOK.out, all_not (wrOk m0) HWO.out.2 (by rw [HWO.out.1, decide_eq_false (by omega : ¬ n1 ≤ 120)]; rfl)]; simp⟩
              go_wp2_with fail
              go_quiet ((go_at_call 13; exact Calls.quiet_of_same (l1In_is HV.out _)))
              go_wp2_with fail
              go_ret
              exact ⟨by rw [HF.out]; rfl, HW.out.1.trans (below_drewN' _ _ _)⟩
            · have hs' : decide ((n1 : Int) > 120) = false := decide_eq_false hs
              have HK2 : Hd ((d.cache.take (k + 1)).all (wrOk m0) = true) := ⟨all_take (wrOk m0) _ k HWO.out.2 HK.out (by rw [HWO.out.1, decide_eq_true (by omega : n1 ≤ 120)]; rfl)⟩
              go_wp2_with fail
              go_quiet ((go_at_call 13; exact Calls.quiet_of_same (l1In_is HV.out _)))
              have HW1 : Hd (∀ N, Below w.heap.size w (wr.drewN N) ∧ (wr.drewN N).heap[w.heap.size]? = some (.cells #[.slice x0 m0 d0, .slice (some ⟨b1, o1, none⟩) m1 d1, .int .i64 f, .bool b] 36 (0, 0))) := ⟨fun N => ⟨HW.out.1.trans (below_drewN' _ _ _), HW.out.2⟩⟩
              clear HK HWO HV HW c0 c1 t0 t1
              go_wp2_with fail
              go_roundw
              case rel => exact ⟨k + 1, by omega, by go_num, HK2, ⟨HW1.out _⟩⟩
              case measure => simp [intOf]; omega
        · have HK2 : Hd (d.cache.all (wrOk m0) = true) := ⟨by have h7 := HK.out; rw [List.take_of_length_le (by have := HL.out.2; omega)] at h7; exact h7⟩
          have HOK2 : Hd (R = (decide (1 ≤ m0 ∧ m0 ≤ 64) && decide (m1 ≤ 40) && decide (-1 ≤ f ∧ f ≤ 1000))) := ⟨by rw [HOK.out, HK1.out, HK2.out]; simp⟩
          clear HK HK1 HK2 HOK
          obtain ⟨V1, hV1⟩ : ∃ V, inB (m0 : Int) 1 64 = V := ⟨_, rfl⟩
          have HV1 : Hd (inB (m0 : Int) 1 64 = V1 ∧ decide (1 ≤ m0 ∧ m0 ≤ 64) = V1) := ⟨hV1, by rw [← hV1, inB_is]; exact decide_eq_decide.2 ⟨fun h => ⟨by omega, by omega⟩, fun h => ⟨by omega, by omega⟩⟩⟩
          clear hV1
          have c2 := cellsA HW.out.2 2 rfl
          go_wp2_with fail
          refine (l1In_is HV1.out.1 _).mono ?_
          rintro e w' ⟨rfl, hw⟩
          replace hw := hw.symm
          subst hw
          cases V1 with
          | false =>
            have HF : Hd (R = false) := ⟨by rw [HOK2.out, HV1.out.2]; simp⟩
            go_wp2_with fail
            go_ret
            exact ⟨by rw [HF.out]; rfl, HW.out.1⟩
          | true =>
            by_cases q40 : (m1 : Int) ≤ 40
            · have q40' : decide ((m1 : Int) ≤ 40) = true := decide_eq_true q40
              obtain ⟨V2, hV2⟩ : ∃ V, inB f (-1) 1000 = V := ⟨_, rfl⟩
              have HV2 : Hd (inB f (-1) 1000 = V2) := ⟨hV2⟩
              have HF : Hd (R = V2) := ⟨by rw [HOK2.out, HV1.out.2, decide_eq_true (by omega : m1 ≤ 40), ← hV2, inB_is]; simp⟩
              clear hV2
              go_wp2_with fail
              refine (l1In_is HV2.out _).mono ?_
              rintro e w' ⟨rfl, hw⟩
              replace hw := hw.symm
              subst hw
              go_wp2_with fail
              go_ret
              exact ⟨by rw [HF.out]; rfl, HW.out.1⟩
            · have q40' : decide ((m1 : Int) ≤ 40) = false := decide_eq_false q40
              have HF : Hd (R = false) := ⟨by rw [HOK2.out, decide_eq_false (by omega : ¬ m1 ≤ 40)]; simp⟩
              go_wp2_with fail
              go_ret
              exact ⟨by rw [HF.out]; rfl, HW.out.1⟩

end Go.Proofs.YtlididoalekeoaaGreatDoor
