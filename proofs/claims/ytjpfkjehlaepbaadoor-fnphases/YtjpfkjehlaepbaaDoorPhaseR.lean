/- Contracts of Reaches, in the program (it calls itself) and in the specification (ways of at most so many steps). -/
import Derived.Test.YtjpfkjehlaepbaaDoorPhaseN
namespace Go.Proofs.YtjpfkjehlaepbaaDoor
set_option maxRecDepth 4000
open Go.RowKit

set_option maxHeartbeats 1000000 in
theorem implReaches_step (a b : Int) (w : World) (R : Hd (∀ k : Nat, nextB a (k : Int) = true → Calls Tryd.prog 16 #[.int .i64 (k : Int), .int .i64 b] w fun e w' => e = .returned (.bool (reaB (k : Int) b)) ∧ w' = w)) :
    Calls Tryd.prog 16 #[.int .i64 a, .int .i64 b] w fun e w' => e = .returned (.bool (reaB a b)) ∧ w' = w := by
  by_cases hab : a = b
  · subst hab
    have e0 := Hd.mk (rea_self a)
    go_enter Tryd.func16, Tryd.ntmps16
    go_wp2_with fail
    go_ret
    exact ⟨ret_bool e0.out.symm, rfl⟩
  · have hN := noWay_zero hab
    have hq : (a == b) = false := by simp [hab]
    go_enter Tryd.func16, Tryd.ntmps16
    go_wp2_with fail
    go_loopw [9] (fun i wr => ∃ k : Nat, i = .int .i64 k ∧ NoWay a b k ∧ Hd (wr = w)) (fun i _ => 8 - (intOf i).toNat)
    case atStart => exact ⟨0, rfl, hN, ⟨rfl⟩⟩
    case round =>
      clear hN
      obtain ⟨k, rfl, hL, hw⟩ := hrel
      replace hw := hw.out.symm
      subst hw
      by_cases hlt : (k : Int) < 8
      · cases hn : nextB a (k : Int) with
        | false =>
          have hM := noWay_next hL (by omega) hn
          clear hL
          go_wp2_with fail
          refine (implNextOk_any a (k : Int) _).mono ?_
          rintro e w1 ⟨rfl, hw⟩
          replace hw := hw.symm
          subst hw
          rw [hn]
          go_wp2_with fail
          go_roundw
          case rel => exact ⟨k + 1, by go_num, hM, ⟨trivial⟩⟩
          case measure => simp [intOf]; omega
        | true =>
          cases hr : reaB (k : Int) b with
          | false =>
            have hM := noWay_past hL (by omega) hr
            clear hL
            go_wp2_with fail
            refine (implNextOk_any a (k : Int) _).mono ?_
            rintro e w1 ⟨rfl, hw⟩
            replace hw := hw.symm
            subst hw
            rw [hn]
            go_wp2_with fail
            refine (R.out k hn).mono ?_
            rintro e w1 ⟨rfl, hw⟩
            replace hw := hw.symm
            subst hw
            rw [hr]
            go_wp2_with fail
            go_roundw
            case rel => exact ⟨k + 1, by go_num, hM, ⟨trivial⟩⟩
            case measure => simp [intOf]; omega
          | true =>
            have e0 := Hd.mk (rea_step hn hr)
            clear hL
            go_wp2_with fail
            refine (implNextOk_any a (k : Int) _).mono ?_
            rintro e w1 ⟨rfl, hw⟩
            replace hw := hw.symm
            subst hw
            rw [hn]
            go_wp2_with fail
            refine (R.out k hn).mono ?_
            rintro e w1 ⟨rfl, hw⟩
            replace hw := hw.symm
            subst hw
            rw [hr]
            go_wp2_with fail
            go_ret
            exact ⟨ret_bool e0.out.symm, rfl⟩
      · have e0 := Hd.mk (noWay_end hL hlt)
        clear hL
        go_wp2_with fail
        go_ret
        exact ⟨ret_bool e0.out, rfl⟩

theorem implReaches_up (b : Int) (w : World) : ∀ n : Nat, ∀ a : Int, (8 : Int) ≤ a + (n : Int) ∨ a < 0 → Calls Tryd.prog 16 #[.int .i64 a, .int .i64 b] w fun e w' => e = .returned (.bool (reaB a b)) ∧ w' = w
  | 0, a, h => implReaches_step a b w ⟨fun k hk => by have := next_up hk; omega⟩
  | n + 1, a, h => implReaches_step a b w ⟨fun k hk => implReaches_up b w n k (by have := next_up hk; omega)⟩
theorem implReaches_any (a b : Int) (w : World) : Calls Tryd.prog 16 #[.int .i64 a, .int .i64 b] w fun e w' => e = .returned (.bool (reaB a b)) ∧ w' = w :=
  implReaches_up b w (8 + a.natAbs) a (by omega)

set_option maxHeartbeats 1000000 in
theorem l14Way_step (a b : Int) (n : Nat) (hn8 : n ≤ 8) (w : World) (h0 : n = 0 → ∀ k : Nat, nextB a (k : Int) = false) (R : Hd (∀ k : Nat, nextB a (k : Int) = true → Calls Tryd.prog 30 #[.int .i64 (k : Int), .int .i64 b, .int .i64 ((n : Int) - 1)] w fun e w' => e = .returned (.bool (reaB (k : Int) b)) ∧ w' = w)) :
    Calls Tryd.prog 30 #[.int .i64 a, .int .i64 b, .int .i64 (n : Int)] w fun e w' => e = .returned (.bool (reaB a b)) ∧ w' = w := by
  by_cases hab : a = b
  · subst hab
    have e0 := Hd.mk (rea_self a)
    clear h0
    go_enter Tryd.func30, Tryd.ntmps30
    go_wp2_with fail
    go_ret
    exact ⟨ret_bool e0.out.symm, rfl⟩
  · have hN := noWay_zero hab
    have hq : (a == b) = false := by simp [hab]
    by_cases hz : n = 0
    · have e0 : Hd (false = reaB a b) := ⟨by
        cases hr : reaB a b with
        | false => rfl
        | true =>
          obtain ⟨p, h1, h2, h3, h4⟩ := rea_split hab hr
          have := h0 hz p.toNat
          rw [show ((p.toNat : Nat) : Int) = p from by omega, h3] at this
          cases this⟩
      clear h0 hN R
      subst hz
      go_enter Tryd.func30, Tryd.ntmps30
      go_wp2_with fail
      refine wp_loop_rounds 1 ?_
      rw [rounds_succ]
      go_wp2_with fail
      go_ret
      exact ⟨ret_bool e0.out, rfl⟩
    clear h0
    have hpos : (0 : Int) < (n : Int) := by omega
    clear hz
    go_enter Tryd.func30, Tryd.ntmps30
    go_wp2_with fail
    go_loopw [7] (fun i wr => ∃ k : Nat, i = .int .i64 k ∧ NoWay a b k ∧ Hd (wr = w)) (fun i _ => 8 - (intOf i).toNat)
    case atStart => exact ⟨0, rfl, hN, ⟨rfl⟩⟩
    case round =>
      clear hN
      obtain ⟨k, rfl, hL, hw⟩ := hrel
      replace hw := hw.out.symm
      subst hw
      by_cases hlt : (k : Int) ≤ 7
      · cases hn : nextB a (k : Int) with
        | false =>
          have hM := noWay_next hL (by omega) hn
          clear hL
          go_wp2_with fail
          refine (specNextOk_any a (k : Int) _).mono ?_
          rintro e w1 ⟨rfl, hw⟩
          replace hw := hw.symm
          subst hw
          rw [hn]
          go_wp2_with fail
          go_roundw
          case rel => exact ⟨k + 1, by go_num, hM, ⟨trivial⟩⟩
          case measure => simp [intOf]; omega
        | true =>
          cases hr : reaB (k : Int) b with
          | false =>
            have hM := noWay_past hL (by omega) hr
            clear hL
            go_wp2_with fail
            refine (specNextOk_any a (k : Int) _).mono ?_
            rintro e w1 ⟨rfl, hw⟩
            replace hw := hw.symm
            subst hw
            rw [hn]
            go_wp2_with fail
            refine (R.out k hn).mono ?_
            rintro e w1 ⟨rfl, hw⟩
            replace hw := hw.symm
            subst hw
            rw [hr]
            go_wp2_with fail
            go_roundw
            case rel => exact ⟨k + 1, by go_num, hM, ⟨trivial⟩⟩
            case measure => simp [intOf]; omega
          | true =>
            have e0 := Hd.mk (rea_step hn hr)
            clear hL
            go_wp2_with fail
            refine (specNextOk_any a (k : Int) _).mono ?_
            rintro e w1 ⟨rfl, hw⟩
            replace hw := hw.symm
            subst hw
            rw [hn]
            go_wp2_with fail
            refine (R.out k hn).mono ?_
            rintro e w1 ⟨rfl, hw⟩
            replace hw := hw.symm
            subst hw
            rw [hr]
            go_wp2_with fail
            go_ret
            exact ⟨ret_bool e0.out.symm, rfl⟩
      · have e0 := Hd.mk (noWay_end hL (by omega))
        clear hL
        go_wp2_with fail
        go_ret
        exact ⟨ret_bool e0.out, rfl⟩

theorem l14Way_up (b : Int) (w : World) : ∀ n : Nat, n ≤ 8 → ∀ a : Int, (7 : Int) ≤ a + (n : Int) ∨ a < 0 → Calls Tryd.prog 30 #[.int .i64 a, .int .i64 b, .int .i64 (n : Int)] w fun e w' => e = .returned (.bool (reaB a b)) ∧ w' = w
  | 0, h8, a, h => l14Way_step a b 0 h8 w (fun _ k => by cases hk : nextB a (k : Int) with | false => rfl | true => have := next_up hk; omega) ⟨fun k hk => by have := next_up hk; omega⟩
  | n + 1, h8, a, h => l14Way_step a b (n + 1) h8 w (fun hz => by omega) ⟨fun k hk => by
      have := l14Way_up b w n (by omega) k (by have := next_up hk; omega)
      rw [show ((n + 1 : Nat) : Int) - 1 = (n : Int) from by omega]
      exact this⟩

set_option maxHeartbeats 400000 in
theorem specReaches_any (a b : Int) (w : World) : Calls Tryd.prog 17 #[.int .i64 a, .int .i64 b] w fun e w' => e = .returned (.bool (reaB a b)) ∧ w' = w := by
  have H : Hd (Calls Tryd.prog 30 #[.int .i64 a, .int .i64 b, .int .i64 8] w fun e w' => e = .returned (.bool (reaB a b)) ∧ w' = w) := ⟨l14Way_up b w 8 (by omega) a (by omega)⟩
  go_enter Tryd.func17, Tryd.ntmps17
  go_wp2_with fail
  refine H.out.mono ?_
  rintro e w1 ⟨rfl, hw⟩
  replace hw := hw.symm
  subst hw
  go_wp2_with fail
  go_ret
  exact ⟨rfl, rfl⟩

end Go.Proofs.YtjpfkjehlaepbaaDoor
