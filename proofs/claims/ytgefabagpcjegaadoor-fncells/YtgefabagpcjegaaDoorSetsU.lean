/- Contracts of SignByte, in the program and in the specification: both look through the bytes in turn. -/
import Derived.Test.YtgefabagpcjegaaDoorSetsT
namespace Go.Proofs.YtgefabagpcjegaaDoor
set_option maxRecDepth 4000
open Go.RowKit

/-- The answers of SignByte. -/
def sbN (cs n : Int) : Int := (sbOf cs n).1
def sbOk (cs n : Int) : Bool := (sbOf cs n).2
/-- Byte k is next to be looked at. -/
structure LookAt (cs n : Int) (k : Nat) : Prop where
  out : look cs n (256 - k) (k : Int) = sbOf cs n
  le : k ≤ 256
theorem lookAt_zero (cs n : Int) : LookAt cs n 0 := ⟨rfl, by omega⟩
theorem sb_yes {cs n : Int} {k : Nat} (hk : (k : Int) < 256) (h0 : LookAt cs n k) (hm : bsOk cs (k : Int) = true ∧ bsN cs (k : Int) = n) : Hd ((k : Int) = sbN cs n) ∧ Hd (true = sbOk cs n) := by
  have h := h0.out
  rw [show 256 - k = (255 - k) + 1 from by omega, look_yes hm] at h
  exact ⟨⟨by unfold sbN; rw [← h]⟩, ⟨by unfold sbOk; rw [← h]⟩⟩
theorem sb_next {cs n : Int} {k : Nat} (hk : (k : Int) < 256) (h0 : LookAt cs n k) (hm : ¬(bsOk cs (k : Int) = true ∧ bsN cs (k : Int) = n)) : LookAt cs n (k + 1) := by
  have h := h0.out
  rw [show 256 - k = (256 - (k + 1)) + 1 from by omega, look_no hm] at h
  exact ⟨by rw [show ((k + 1 : Nat) : Int) = (k : Int) + 1 from by omega]; exact h, by omega⟩
theorem sb_end {cs n : Int} {k : Nat} (hk : ¬ (k : Int) < 256) (h0 : LookAt cs n k) : Hd ((0 : Int) = sbN cs n) ∧ Hd (false = sbOk cs n) := by
  have h := h0.out
  rw [show 256 - k = 0 from by omega] at h
  exact ⟨⟨by unfold sbN; rw [← h]; rfl⟩, ⟨by unfold sbOk; rw [← h]; rfl⟩⟩

set_option maxHeartbeats 1000000 in
theorem implSignByte_any (cs n : Int) (w : World) (T : Hd (TabsAt w)) :
    Calls Tryd.prog 85 #[.int .i64 cs, .int .i64 n] w fun e w' => e = .returned (.tuple #[.int .i64 (sbN cs n), .bool (sbOk cs n)]) ∧ w' = w := by
  go_enter Tryd.func85, Tryd.ntmps85
  go_wp2_with fail
  go_loop [9] (fun i => ∃ k : Nat, i = .int .i64 k ∧ LookAt cs n k) (fun i => 256 - (intOf i).toNat)
  case atStart => exact ⟨0, rfl, lookAt_zero cs n⟩
  case round =>
    obtain ⟨k, rfl, hL⟩ := hrel
    by_cases hlt : (k : Int) < 256
    · by_cases hm : bsOk cs (k : Int) = true ∧ bsN cs (k : Int) = n
      · obtain ⟨e0, e1⟩ := sb_yes hlt hL hm
        obtain ⟨hm1, hm2⟩ := hm
        clear hL
        go_wp2_with fail
        refine (implByteSign_any cs (k : Int) _ T).mono ?_
        rintro e w1 ⟨rfl, hw⟩
        replace hw := hw.symm
        subst hw
        rw [hm1, hm2]
        clear hm1 hm2
        go_wp2_with fail
        go_ret2
        exact ⟨ret_pair e0.out e1.out, rfl⟩
      · have hN := sb_next hlt hL hm
        clear hL
        cases hm1 : bsOk cs (k : Int) with
        | true =>
          have hm2 : (bsN cs (k : Int) == n) = false := beq_false_of_ne fun h => hm ⟨hm1, h⟩
          have HM : Hd (bsOk cs (k : Int) = true) := ⟨hm1⟩
          clear hm hm1
          go_wp2_with fail
          refine (implByteSign_any cs (k : Int) _ T).mono ?_
          rintro e w1 ⟨rfl, hw⟩
          replace hw := hw.symm
          subst hw
          rw [HM.out]
          generalize bsN cs (k : Int) = t at *
          go_wp2_with fail
          go_round
          case rel => exact ⟨k + 1, by go_num, hN⟩
          case measure => simp [intOf]; omega
        | false =>
          have HM : Hd (bsOk cs (k : Int) = false) := ⟨hm1⟩
          clear hm hm1
          go_wp2_with fail
          refine (implByteSign_any cs (k : Int) _ T).mono ?_
          rintro e w1 ⟨rfl, hw⟩
          replace hw := hw.symm
          subst hw
          rw [HM.out]
          generalize bsN cs (k : Int) = t at *
          go_wp2_with fail
          go_round
          case rel => exact ⟨k + 1, by go_num, hN⟩
          case measure => simp [intOf]; omega
    · obtain ⟨e0, e1⟩ := sb_end hlt hL
      clear hL
      go_wp2_with fail
      go_ret2
      exact ⟨ret_pair e0.out e1.out, rfl⟩

set_option maxHeartbeats 1000000 in
theorem specSignByte_any (cs n : Int) (w : World) :
    Calls Tryd.prog 76 #[.int .i64 cs, .int .i64 n] w fun e w' => e = .returned (.tuple #[.int .i64 (sbN cs n), .bool (sbOk cs n)]) ∧ Below w.heap.size w w' := by
  go_enter Tryd.func76, Tryd.ntmps76
  go_wp2_with fail
  go_loopw [6] (fun i wr => ∃ k : Nat, i = .int .i64 k ∧ LookAt cs n k ∧ Hd (Below w.heap.size w wr)) (fun i _ => 256 - (intOf i).toNat)
  case atStart => exact ⟨0, rfl, lookAt_zero cs n, ⟨Below.refl _ _⟩⟩
  case round =>
    obtain ⟨k, rfl, hL, hB⟩ := hrel
    by_cases hlt : (k : Int) < 256
    · by_cases hm : bsOk cs (k : Int) = true ∧ bsN cs (k : Int) = n
      · obtain ⟨e0, e1⟩ := sb_yes hlt hL hm
        obtain ⟨hm1, hm2⟩ := hm
        clear hL
        go_wp2_with fail
        refine (specByteSign_any cs (k : Int) _).mono ?_
        rintro e w1 ⟨rfl, hw⟩
        have hB1 : Hd (Below w.heap.size w w1) := ⟨Below.next hB.out hw⟩
        rw [hm1, hm2]
        clear hm1 hm2 hw hB
        go_wp2_with fail
        go_ret2
        exact ⟨ret_pair e0.out e1.out, hB1.out⟩
      · have hN := sb_next hlt hL hm
        clear hL
        cases hm1 : bsOk cs (k : Int) with
        | true =>
          have hm2 : (bsN cs (k : Int) == n) = false := beq_false_of_ne fun h => hm ⟨hm1, h⟩
          have HM : Hd (bsOk cs (k : Int) = true) := ⟨hm1⟩
          clear hm hm1
          go_wp2_with fail
          refine (specByteSign_any cs (k : Int) _).mono ?_
          rintro e w1 ⟨rfl, hw⟩
          have hB1 : Hd (Below w.heap.size w w1) := ⟨Below.next hB.out hw⟩
          clear hw hB
          rw [HM.out]
          generalize bsN cs (k : Int) = t at *
          go_wp2_with fail
          go_roundw
          case rel => exact ⟨k + 1, by go_num, hN, hB1⟩
          case measure => simp [intOf]; omega
        | false =>
          have HM : Hd (bsOk cs (k : Int) = false) := ⟨hm1⟩
          clear hm hm1
          go_wp2_with fail
          refine (specByteSign_any cs (k : Int) _).mono ?_
          rintro e w1 ⟨rfl, hw⟩
          have hB1 : Hd (Below w.heap.size w w1) := ⟨Below.next hB.out hw⟩
          clear hw hB
          rw [HM.out]
          generalize bsN cs (k : Int) = t at *
          go_wp2_with fail
          go_roundw
          case rel => exact ⟨k + 1, by go_num, hN, hB1⟩
          case measure => simp [intOf]; omega
    · obtain ⟨e0, e1⟩ := sb_end hlt hL
      clear hL
      go_wp2_with fail
      go_ret2
      exact ⟨ret_pair e0.out e1.out, hB.out⟩

end Go.Proofs.YtgefabagpcjegaaDoor
