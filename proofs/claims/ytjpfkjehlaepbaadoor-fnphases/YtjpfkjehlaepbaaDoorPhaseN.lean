/- Contracts of NextOk, in the program and in the specification. -/
import Derived.Test.YtjpfkjehlaepbaaDoorPhaseP
import Derived.Test.YtjpfkjehlaepbaaDoorBase
namespace Go.Proofs.YtjpfkjehlaepbaaDoor
set_option maxRecDepth 4000
open Go.RowKit

set_option maxHeartbeats 1000000 in
theorem implNextOk_any (a : Int) (b : Int) (w : World) :
    Calls Tryd.prog 14 #[.int .i64 a, .int .i64 b] w fun e w' => e = .returned (.bool (nextB a b)) ∧ w' = w := by
  rcases (show a = 0 ∨ a = 1 ∨ a = 2 ∨ a = 3 ∨ a = 4 ∨ a = 6 ∨ a < 0 ∨ a = 5 ∨ 6 < a from by omega) with h | h | h | h | h | h | h | h | h
  · subst h
    rcases (show b = 1 ∨ b = 6 ∨ (b ≠ 1 ∧ b ≠ 6) from by omega) with h | h | ⟨h1, h2⟩
    · subst h
      have e0 := Hd.mk (next_t (a := 0) (b := 1) (by omega))
      go_enter Tryd.func14, Tryd.ntmps14
      go_wp2_with fail
      go_ret
      exact ⟨ret_bool e0.out, rfl⟩
    · subst h
      have e0 := Hd.mk (next_t (a := 0) (b := 6) (by omega))
      go_enter Tryd.func14, Tryd.ntmps14
      go_wp2_with fail
      go_ret
      exact ⟨ret_bool e0.out, rfl⟩
    · have q6 : (b == 6) = false := by simp [h2]
      have q1 : (b == 1) = false := by simp [h1]
      have e0 := Hd.mk (next_f (a := 0) (b := b) (by omega))
      go_enter Tryd.func14, Tryd.ntmps14
      go_wp2_with fail
      go_ret
      exact ⟨ret_bool e0.out, rfl⟩
  · subst h
    rcases (show b = 2 ∨ b = 6 ∨ (b ≠ 2 ∧ b ≠ 6) from by omega) with h | h | ⟨h1, h2⟩
    · subst h
      have e0 := Hd.mk (next_t (a := 1) (b := 2) (by omega))
      go_enter Tryd.func14, Tryd.ntmps14
      go_wp2_with fail
      go_ret
      exact ⟨ret_bool e0.out, rfl⟩
    · subst h
      have e0 := Hd.mk (next_t (a := 1) (b := 6) (by omega))
      go_enter Tryd.func14, Tryd.ntmps14
      go_wp2_with fail
      go_ret
      exact ⟨ret_bool e0.out, rfl⟩
    · have q6 : (b == 6) = false := by simp [h2]
      have q1 : (b == 2) = false := by simp [h1]
      have e0 := Hd.mk (next_f (a := 1) (b := b) (by omega))
      go_enter Tryd.func14, Tryd.ntmps14
      go_wp2_with fail
      go_ret
      exact ⟨ret_bool e0.out, rfl⟩
  · subst h
    rcases (show b = 3 ∨ b = 6 ∨ (b ≠ 3 ∧ b ≠ 6) from by omega) with h | h | ⟨h1, h2⟩
    · subst h
      have e0 := Hd.mk (next_t (a := 2) (b := 3) (by omega))
      go_enter Tryd.func14, Tryd.ntmps14
      go_wp2_with fail
      go_ret
      exact ⟨ret_bool e0.out, rfl⟩
    · subst h
      have e0 := Hd.mk (next_t (a := 2) (b := 6) (by omega))
      go_enter Tryd.func14, Tryd.ntmps14
      go_wp2_with fail
      go_ret
      exact ⟨ret_bool e0.out, rfl⟩
    · have q6 : (b == 6) = false := by simp [h2]
      have q1 : (b == 3) = false := by simp [h1]
      have e0 := Hd.mk (next_f (a := 2) (b := b) (by omega))
      go_enter Tryd.func14, Tryd.ntmps14
      go_wp2_with fail
      go_ret
      exact ⟨ret_bool e0.out, rfl⟩
  · subst h
    rcases (show b = 4 ∨ b = 6 ∨ (b ≠ 4 ∧ b ≠ 6) from by omega) with h | h | ⟨h1, h2⟩
    · subst h
      have e0 := Hd.mk (next_t (a := 3) (b := 4) (by omega))
      go_enter Tryd.func14, Tryd.ntmps14
      go_wp2_with fail
      go_ret
      exact ⟨ret_bool e0.out, rfl⟩
    · subst h
      have e0 := Hd.mk (next_t (a := 3) (b := 6) (by omega))
      go_enter Tryd.func14, Tryd.ntmps14
      go_wp2_with fail
      go_ret
      exact ⟨ret_bool e0.out, rfl⟩
    · have q6 : (b == 6) = false := by simp [h2]
      have q1 : (b == 4) = false := by simp [h1]
      have e0 := Hd.mk (next_f (a := 3) (b := b) (by omega))
      go_enter Tryd.func14, Tryd.ntmps14
      go_wp2_with fail
      go_ret
      exact ⟨ret_bool e0.out, rfl⟩
  · subst h
    rcases (show b = 5 ∨ b ≠ 5 from by omega) with h | h1
    · subst h
      have e0 := Hd.mk (next_t (a := 4) (b := 5) (by omega))
      go_enter Tryd.func14, Tryd.ntmps14
      go_wp2_with fail
      go_ret
      exact ⟨ret_bool e0.out, rfl⟩
    · have q7 : (b == 5) = false := by simp [h1]
      have e0 := Hd.mk (next_f (a := 4) (b := b) (by omega))
      go_enter Tryd.func14, Tryd.ntmps14
      go_wp2_with fail
      go_ret
      exact ⟨ret_bool e0.out, rfl⟩
  · subst h
    rcases (show b = 7 ∨ b ≠ 7 from by omega) with h | h1
    · subst h
      have e0 := Hd.mk (next_t (a := 6) (b := 7) (by omega))
      go_enter Tryd.func14, Tryd.ntmps14
      go_wp2_with fail
      go_ret
      exact ⟨ret_bool e0.out, rfl⟩
    · have q7 : (b == 7) = false := by simp [h1]
      have e0 := Hd.mk (next_f (a := 6) (b := b) (by omega))
      go_enter Tryd.func14, Tryd.ntmps14
      go_wp2_with fail
      go_ret
      exact ⟨ret_bool e0.out, rfl⟩
  · have e0 := Hd.mk (next_f (a := a) (b := b) (by omega))
    go_enter Tryd.func14, Tryd.ntmps14
    go_wp2_with fail
    go_ret
    exact ⟨ret_bool e0.out, rfl⟩
  · subst h
    have e0 := Hd.mk (next_f (a := 5) (b := b) (by omega))
    go_enter Tryd.func14, Tryd.ntmps14
    go_wp2_with fail
    go_ret
    exact ⟨ret_bool e0.out, rfl⟩
  · have e0 := Hd.mk (next_f (a := a) (b := b) (by omega))
    go_enter Tryd.func14, Tryd.ntmps14
    go_wp2_with fail
    go_ret
    exact ⟨ret_bool e0.out, rfl⟩

set_option maxHeartbeats 1000000 in
theorem specNextOk_any (a : Int) (b : Int) (w : World) :
    Calls Tryd.prog 15 #[.int .i64 a, .int .i64 b] w fun e w' => e = .returned (.bool (nextB a b)) ∧ w' = w := by
  rcases (show a = 0 ∨ a = 1 ∨ a = 2 ∨ a = 3 ∨ a = 4 ∨ a = 6 ∨ a < 0 ∨ a = 5 ∨ 6 < a from by omega) with h | h | h | h | h | h | h | h | h
  · subst h
    rcases (show b = 1 ∨ b = 6 ∨ (b ≠ 1 ∧ b ≠ 6) from by omega) with h | h | ⟨h1, h2⟩
    · subst h
      have i4 : inB 0 0 4 = true := in_t (x := 0) (lo := 0) (hi := 4) (by omega)
      have i3 : inB 0 0 3 = true := in_t (x := 0) (lo := 0) (hi := 3) (by omega)
      have e0 := Hd.mk (next_t (a := 0) (b := 1) (by omega))
      go_enter Tryd.func15, Tryd.ntmps15
      go_wp2_with (go_at_call 29; refine (l1In_any _ _ _ _).mono ?_; rintro e w' ⟨rfl, hw⟩; replace hw := hw.symm; subst hw)
      go_ret
      exact ⟨ret_bool e0.out, rfl⟩
    · subst h
      have i4 : inB 0 0 4 = true := in_t (x := 0) (lo := 0) (hi := 4) (by omega)
      have i3 : inB 0 0 3 = true := in_t (x := 0) (lo := 0) (hi := 3) (by omega)
      have e0 := Hd.mk (next_t (a := 0) (b := 6) (by omega))
      go_enter Tryd.func15, Tryd.ntmps15
      go_wp2_with (go_at_call 29; refine (l1In_any _ _ _ _).mono ?_; rintro e w' ⟨rfl, hw⟩; replace hw := hw.symm; subst hw)
      go_ret
      exact ⟨ret_bool e0.out, rfl⟩
    · have i4 : inB 0 0 4 = true := in_t (x := 0) (lo := 0) (hi := 4) (by omega)
      have i3 : inB 0 0 3 = true := in_t (x := 0) (lo := 0) (hi := 3) (by omega)
      have q6 : (b == 6) = false := by simp [h2]
      have q1 : (b == 1) = false := by simp [h1]
      have e0 := Hd.mk (next_f (a := 0) (b := b) (by omega))
      go_enter Tryd.func15, Tryd.ntmps15
      go_wp2_with (go_at_call 29; refine (l1In_any _ _ _ _).mono ?_; rintro e w' ⟨rfl, hw⟩; replace hw := hw.symm; subst hw)
      go_ret
      exact ⟨ret_bool e0.out, rfl⟩
  · subst h
    rcases (show b = 2 ∨ b = 6 ∨ (b ≠ 2 ∧ b ≠ 6) from by omega) with h | h | ⟨h1, h2⟩
    · subst h
      have i4 : inB 1 0 4 = true := in_t (x := 1) (lo := 0) (hi := 4) (by omega)
      have i3 : inB 1 0 3 = true := in_t (x := 1) (lo := 0) (hi := 3) (by omega)
      have e0 := Hd.mk (next_t (a := 1) (b := 2) (by omega))
      go_enter Tryd.func15, Tryd.ntmps15
      go_wp2_with (go_at_call 29; refine (l1In_any _ _ _ _).mono ?_; rintro e w' ⟨rfl, hw⟩; replace hw := hw.symm; subst hw)
      go_ret
      exact ⟨ret_bool e0.out, rfl⟩
    · subst h
      have i4 : inB 1 0 4 = true := in_t (x := 1) (lo := 0) (hi := 4) (by omega)
      have i3 : inB 1 0 3 = true := in_t (x := 1) (lo := 0) (hi := 3) (by omega)
      have e0 := Hd.mk (next_t (a := 1) (b := 6) (by omega))
      go_enter Tryd.func15, Tryd.ntmps15
      go_wp2_with (go_at_call 29; refine (l1In_any _ _ _ _).mono ?_; rintro e w' ⟨rfl, hw⟩; replace hw := hw.symm; subst hw)
      go_ret
      exact ⟨ret_bool e0.out, rfl⟩
    · have i4 : inB 1 0 4 = true := in_t (x := 1) (lo := 0) (hi := 4) (by omega)
      have i3 : inB 1 0 3 = true := in_t (x := 1) (lo := 0) (hi := 3) (by omega)
      have q6 : (b == 6) = false := by simp [h2]
      have q1 : (b == 2) = false := by simp [h1]
      have e0 := Hd.mk (next_f (a := 1) (b := b) (by omega))
      go_enter Tryd.func15, Tryd.ntmps15
      go_wp2_with (go_at_call 29; refine (l1In_any _ _ _ _).mono ?_; rintro e w' ⟨rfl, hw⟩; replace hw := hw.symm; subst hw)
      go_ret
      exact ⟨ret_bool e0.out, rfl⟩
  · subst h
    rcases (show b = 3 ∨ b = 6 ∨ (b ≠ 3 ∧ b ≠ 6) from by omega) with h | h | ⟨h1, h2⟩
    · subst h
      have i4 : inB 2 0 4 = true := in_t (x := 2) (lo := 0) (hi := 4) (by omega)
      have i3 : inB 2 0 3 = true := in_t (x := 2) (lo := 0) (hi := 3) (by omega)
      have e0 := Hd.mk (next_t (a := 2) (b := 3) (by omega))
      go_enter Tryd.func15, Tryd.ntmps15
      go_wp2_with (go_at_call 29; refine (l1In_any _ _ _ _).mono ?_; rintro e w' ⟨rfl, hw⟩; replace hw := hw.symm; subst hw)
      go_ret
      exact ⟨ret_bool e0.out, rfl⟩
    · subst h
      have i4 : inB 2 0 4 = true := in_t (x := 2) (lo := 0) (hi := 4) (by omega)
      have i3 : inB 2 0 3 = true := in_t (x := 2) (lo := 0) (hi := 3) (by omega)
      have e0 := Hd.mk (next_t (a := 2) (b := 6) (by omega))
      go_enter Tryd.func15, Tryd.ntmps15
      go_wp2_with (go_at_call 29; refine (l1In_any _ _ _ _).mono ?_; rintro e w' ⟨rfl, hw⟩; replace hw := hw.symm; subst hw)
      go_ret
      exact ⟨ret_bool e0.out, rfl⟩
    · have i4 : inB 2 0 4 = true := in_t (x := 2) (lo := 0) (hi := 4) (by omega)
      have i3 : inB 2 0 3 = true := in_t (x := 2) (lo := 0) (hi := 3) (by omega)
      have q6 : (b == 6) = false := by simp [h2]
      have q1 : (b == 3) = false := by simp [h1]
      have e0 := Hd.mk (next_f (a := 2) (b := b) (by omega))
      go_enter Tryd.func15, Tryd.ntmps15
      go_wp2_with (go_at_call 29; refine (l1In_any _ _ _ _).mono ?_; rintro e w' ⟨rfl, hw⟩; replace hw := hw.symm; subst hw)
      go_ret
      exact ⟨ret_bool e0.out, rfl⟩
  · subst h
    rcases (show b = 4 ∨ b = 6 ∨ (b ≠ 4 ∧ b ≠ 6) from by omega) with h | h | ⟨h1, h2⟩
    · subst h
      have i4 : inB 3 0 4 = true := in_t (x := 3) (lo := 0) (hi := 4) (by omega)
      have i3 : inB 3 0 3 = true := in_t (x := 3) (lo := 0) (hi := 3) (by omega)
      have e0 := Hd.mk (next_t (a := 3) (b := 4) (by omega))
      go_enter Tryd.func15, Tryd.ntmps15
      go_wp2_with (go_at_call 29; refine (l1In_any _ _ _ _).mono ?_; rintro e w' ⟨rfl, hw⟩; replace hw := hw.symm; subst hw)
      go_ret
      exact ⟨ret_bool e0.out, rfl⟩
    · subst h
      have i4 : inB 3 0 4 = true := in_t (x := 3) (lo := 0) (hi := 4) (by omega)
      have i3 : inB 3 0 3 = true := in_t (x := 3) (lo := 0) (hi := 3) (by omega)
      have e0 := Hd.mk (next_t (a := 3) (b := 6) (by omega))
      go_enter Tryd.func15, Tryd.ntmps15
      go_wp2_with (go_at_call 29; refine (l1In_any _ _ _ _).mono ?_; rintro e w' ⟨rfl, hw⟩; replace hw := hw.symm; subst hw)
      go_ret
      exact ⟨ret_bool e0.out, rfl⟩
    · have i4 : inB 3 0 4 = true := in_t (x := 3) (lo := 0) (hi := 4) (by omega)
      have i3 : inB 3 0 3 = true := in_t (x := 3) (lo := 0) (hi := 3) (by omega)
      have q6 : (b == 6) = false := by simp [h2]
      have q1 : (b == 4) = false := by simp [h1]
      have e0 := Hd.mk (next_f (a := 3) (b := b) (by omega))
      go_enter Tryd.func15, Tryd.ntmps15
      go_wp2_with (go_at_call 29; refine (l1In_any _ _ _ _).mono ?_; rintro e w' ⟨rfl, hw⟩; replace hw := hw.symm; subst hw)
      go_ret
      exact ⟨ret_bool e0.out, rfl⟩
  · subst h
    rcases (show b = 5 ∨ b ≠ 5 from by omega) with h | h1
    · subst h
      have i4 : inB 4 0 4 = true := in_t (x := 4) (lo := 0) (hi := 4) (by omega)
      have i3 : inB 4 0 3 = false := in_f (x := 4) (lo := 0) (hi := 3) (by omega)
      have e0 := Hd.mk (next_t (a := 4) (b := 5) (by omega))
      go_enter Tryd.func15, Tryd.ntmps15
      go_wp2_with (go_at_call 29; refine (l1In_any _ _ _ _).mono ?_; rintro e w' ⟨rfl, hw⟩; replace hw := hw.symm; subst hw)
      go_ret
      exact ⟨ret_bool e0.out, rfl⟩
    · have i4 : inB 4 0 4 = true := in_t (x := 4) (lo := 0) (hi := 4) (by omega)
      have i3 : inB 4 0 3 = false := in_f (x := 4) (lo := 0) (hi := 3) (by omega)
      have q7 : (b == 5) = false := by simp [h1]
      have e0 := Hd.mk (next_f (a := 4) (b := b) (by omega))
      go_enter Tryd.func15, Tryd.ntmps15
      go_wp2_with (go_at_call 29; refine (l1In_any _ _ _ _).mono ?_; rintro e w' ⟨rfl, hw⟩; replace hw := hw.symm; subst hw)
      go_ret
      exact ⟨ret_bool e0.out, rfl⟩
  · subst h
    rcases (show b = 7 ∨ b ≠ 7 from by omega) with h | h1
    · subst h
      have i4 : inB 6 0 4 = false := in_f (x := 6) (lo := 0) (hi := 4) (by omega)
      have i3 : inB 6 0 3 = false := in_f (x := 6) (lo := 0) (hi := 3) (by omega)
      have e0 := Hd.mk (next_t (a := 6) (b := 7) (by omega))
      go_enter Tryd.func15, Tryd.ntmps15
      go_wp2_with (go_at_call 29; refine (l1In_any _ _ _ _).mono ?_; rintro e w' ⟨rfl, hw⟩; replace hw := hw.symm; subst hw)
      go_ret
      exact ⟨ret_bool e0.out, rfl⟩
    · have i4 : inB 6 0 4 = false := in_f (x := 6) (lo := 0) (hi := 4) (by omega)
      have i3 : inB 6 0 3 = false := in_f (x := 6) (lo := 0) (hi := 3) (by omega)
      have q7 : (b == 7) = false := by simp [h1]
      have e0 := Hd.mk (next_f (a := 6) (b := b) (by omega))
      go_enter Tryd.func15, Tryd.ntmps15
      go_wp2_with (go_at_call 29; refine (l1In_any _ _ _ _).mono ?_; rintro e w' ⟨rfl, hw⟩; replace hw := hw.symm; subst hw)
      go_ret
      exact ⟨ret_bool e0.out, rfl⟩
  · have i4 : inB a 0 4 = false := in_f (x := a) (lo := 0) (hi := 4) (by omega)
    have i3 : inB a 0 3 = false := in_f (x := a) (lo := 0) (hi := 3) (by omega)
    have e0 := Hd.mk (next_f (a := a) (b := b) (by omega))
    go_enter Tryd.func15, Tryd.ntmps15
    go_wp2_with (go_at_call 29; refine (l1In_any _ _ _ _).mono ?_; rintro e w' ⟨rfl, hw⟩; replace hw := hw.symm; subst hw)
    go_ret
    exact ⟨ret_bool e0.out, rfl⟩
  · subst h
    have i4 : inB 5 0 4 = false := in_f (x := 5) (lo := 0) (hi := 4) (by omega)
    have i3 : inB 5 0 3 = false := in_f (x := 5) (lo := 0) (hi := 3) (by omega)
    have e0 := Hd.mk (next_f (a := 5) (b := b) (by omega))
    go_enter Tryd.func15, Tryd.ntmps15
    go_wp2_with (go_at_call 29; refine (l1In_any _ _ _ _).mono ?_; rintro e w' ⟨rfl, hw⟩; replace hw := hw.symm; subst hw)
    go_ret
    exact ⟨ret_bool e0.out, rfl⟩
  · have i4 : inB a 0 4 = false := in_f (x := a) (lo := 0) (hi := 4) (by omega)
    have i3 : inB a 0 3 = false := in_f (x := a) (lo := 0) (hi := 3) (by omega)
    have e0 := Hd.mk (next_f (a := a) (b := b) (by omega))
    go_enter Tryd.func15, Tryd.ntmps15
    go_wp2_with (go_at_call 29; refine (l1In_any _ _ _ _).mono ?_; rintro e w' ⟨rfl, hw⟩; replace hw := hw.symm; subst hw)
    go_ret
    exact ⟨ret_bool e0.out, rfl⟩

end Go.Proofs.YtjpfkjehlaepbaaDoor
