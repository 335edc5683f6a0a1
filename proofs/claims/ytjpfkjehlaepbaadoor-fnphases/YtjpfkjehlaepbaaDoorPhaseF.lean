/- Contracts of Final and Walks, in the program and in the specification. -/
import Derived.Test.YtjpfkjehlaepbaaDoorPhaseP
import Derived.Test.YtjpfkjehlaepbaaDoorBase
namespace Go.Proofs.YtjpfkjehlaepbaaDoor
set_option maxRecDepth 4000
open Go.RowKit

set_option maxHeartbeats 1000000 in
theorem implFinal_any (p : Int) (w : World) :
    Calls Tryd.prog 18 #[.int .i64 p] w fun e w' => e = .returned (.bool (finB p)) ∧ w' = w := by
  rcases (show p = 5 ∨ p = 7 ∨ (p ≠ 5 ∧ p ≠ 7) from by omega) with h | h | ⟨h1, h2⟩
  · subst h
    have e0 := Hd.mk (fin_t (p := 5) (by omega))
    go_enter Tryd.func18, Tryd.ntmps18
    go_wp2_with fail
    go_ret
    exact ⟨ret_bool e0.out, rfl⟩
  · subst h
    have e0 := Hd.mk (fin_t (p := 7) (by omega))
    go_enter Tryd.func18, Tryd.ntmps18
    go_wp2_with fail
    go_ret
    exact ⟨ret_bool e0.out, rfl⟩
  · have q5 : (p == 5) = false := by simp [h1]
    have q7 : (p == 7) = false := by simp [h2]
    have e0 := Hd.mk (fin_f (p := p) (by omega))
    go_enter Tryd.func18, Tryd.ntmps18
    go_wp2_with fail
    go_ret
    exact ⟨ret_bool e0.out, rfl⟩

set_option maxHeartbeats 1000000 in
theorem specFinal_any (p : Int) (w : World) :
    Calls Tryd.prog 19 #[.int .i64 p] w fun e w' => e = .returned (.bool (finB p)) ∧ w' = w := by
  rcases (show p = 5 ∨ p = 7 ∨ (p ≠ 5 ∧ p ≠ 7) from by omega) with h | h | ⟨h1, h2⟩
  · subst h
    have e0 := Hd.mk (fin_t (p := 5) (by omega))
    go_enter Tryd.func19, Tryd.ntmps19
    go_wp2_with fail
    go_ret
    exact ⟨ret_bool e0.out, rfl⟩
  · subst h
    have e0 := Hd.mk (fin_t (p := 7) (by omega))
    go_enter Tryd.func19, Tryd.ntmps19
    go_wp2_with fail
    go_ret
    exact ⟨ret_bool e0.out, rfl⟩
  · have q5 : (p == 5) = false := by simp [h1]
    have q7 : (p == 7) = false := by simp [h2]
    have e0 := Hd.mk (fin_f (p := p) (by omega))
    go_enter Tryd.func19, Tryd.ntmps19
    go_wp2_with fail
    go_ret
    exact ⟨ret_bool e0.out, rfl⟩

set_option maxHeartbeats 1000000 in
theorem implWalks_any (p : Int) (w : World) :
    Calls Tryd.prog 20 #[.int .i64 p] w fun e w' => e = .returned (.bool (walB p)) ∧ w' = w := by
  rcases (show p = 2 ∨ p = 3 ∨ p = 4 ∨ p = 6 ∨ p < 2 ∨ p = 5 ∨ 6 < p from by omega) with h | h | h | h | h | h | h
  · subst h
    have e0 := Hd.mk (wal_t (p := 2) (by omega))
    go_enter Tryd.func20, Tryd.ntmps20
    go_wp2_with fail
    go_ret
    exact ⟨ret_bool e0.out, rfl⟩
  · subst h
    have e0 := Hd.mk (wal_t (p := 3) (by omega))
    go_enter Tryd.func20, Tryd.ntmps20
    go_wp2_with fail
    go_ret
    exact ⟨ret_bool e0.out, rfl⟩
  · subst h
    have e0 := Hd.mk (wal_t (p := 4) (by omega))
    go_enter Tryd.func20, Tryd.ntmps20
    go_wp2_with fail
    go_ret
    exact ⟨ret_bool e0.out, rfl⟩
  · subst h
    have e0 := Hd.mk (wal_t (p := 6) (by omega))
    go_enter Tryd.func20, Tryd.ntmps20
    go_wp2_with fail
    go_ret
    exact ⟨ret_bool e0.out, rfl⟩
  · have q2 : (p == 2) = false := by simp; omega
    have q3 : (p == 3) = false := by simp; omega
    have q4 : (p == 4) = false := by simp; omega
    have q6 : (p == 6) = false := by simp; omega
    have e0 := Hd.mk (wal_f (p := p) (by omega))
    go_enter Tryd.func20, Tryd.ntmps20
    go_wp2_with fail
    go_ret
    exact ⟨ret_bool e0.out, rfl⟩
  · subst h
    have e0 := Hd.mk (wal_f (p := 5) (by omega))
    go_enter Tryd.func20, Tryd.ntmps20
    go_wp2_with fail
    go_ret
    exact ⟨ret_bool e0.out, rfl⟩
  · have q2 : (p == 2) = false := by simp; omega
    have q3 : (p == 3) = false := by simp; omega
    have q4 : (p == 4) = false := by simp; omega
    have q6 : (p == 6) = false := by simp; omega
    have e0 := Hd.mk (wal_f (p := p) (by omega))
    go_enter Tryd.func20, Tryd.ntmps20
    go_wp2_with fail
    go_ret
    exact ⟨ret_bool e0.out, rfl⟩

set_option maxHeartbeats 1000000 in
theorem specWalks_any (p : Int) (w : World) :
    Calls Tryd.prog 21 #[.int .i64 p] w fun e w' => e = .returned (.bool (walB p)) ∧ w' = w := by
  rcases (show p = 2 ∨ p = 3 ∨ p = 4 ∨ p = 6 ∨ p < 2 ∨ p = 5 ∨ 6 < p from by omega) with h | h | h | h | h | h | h
  · subst h
    have i4 : inB 2 2 4 = true := in_t (x := 2) (lo := 2) (hi := 4) (by omega)
    have e0 := Hd.mk (wal_t (p := 2) (by omega))
    go_enter Tryd.func21, Tryd.ntmps21
    go_wp2_with (go_at_call 29; refine (l1In_any _ _ _ _).mono ?_; rintro e w' ⟨rfl, hw⟩; replace hw := hw.symm; subst hw)
    go_ret
    exact ⟨ret_bool e0.out, rfl⟩
  · subst h
    have i4 : inB 3 2 4 = true := in_t (x := 3) (lo := 2) (hi := 4) (by omega)
    have e0 := Hd.mk (wal_t (p := 3) (by omega))
    go_enter Tryd.func21, Tryd.ntmps21
    go_wp2_with (go_at_call 29; refine (l1In_any _ _ _ _).mono ?_; rintro e w' ⟨rfl, hw⟩; replace hw := hw.symm; subst hw)
    go_ret
    exact ⟨ret_bool e0.out, rfl⟩
  · subst h
    have i4 : inB 4 2 4 = true := in_t (x := 4) (lo := 2) (hi := 4) (by omega)
    have e0 := Hd.mk (wal_t (p := 4) (by omega))
    go_enter Tryd.func21, Tryd.ntmps21
    go_wp2_with (go_at_call 29; refine (l1In_any _ _ _ _).mono ?_; rintro e w' ⟨rfl, hw⟩; replace hw := hw.symm; subst hw)
    go_ret
    exact ⟨ret_bool e0.out, rfl⟩
  · subst h
    have i4 : inB 6 2 4 = false := in_f (x := 6) (lo := 2) (hi := 4) (by omega)
    have e0 := Hd.mk (wal_t (p := 6) (by omega))
    go_enter Tryd.func21, Tryd.ntmps21
    go_wp2_with (go_at_call 29; refine (l1In_any _ _ _ _).mono ?_; rintro e w' ⟨rfl, hw⟩; replace hw := hw.symm; subst hw)
    go_ret
    exact ⟨ret_bool e0.out, rfl⟩
  · have i4 : inB p 2 4 = false := in_f (x := p) (lo := 2) (hi := 4) (by omega)
    have q2 : (p == 2) = false := by simp; omega
    have q3 : (p == 3) = false := by simp; omega
    have q4 : (p == 4) = false := by simp; omega
    have q6 : (p == 6) = false := by simp; omega
    have e0 := Hd.mk (wal_f (p := p) (by omega))
    go_enter Tryd.func21, Tryd.ntmps21
    go_wp2_with (go_at_call 29; refine (l1In_any _ _ _ _).mono ?_; rintro e w' ⟨rfl, hw⟩; replace hw := hw.symm; subst hw)
    go_ret
    exact ⟨ret_bool e0.out, rfl⟩
  · subst h
    have i4 : inB 5 2 4 = false := in_f (x := 5) (lo := 2) (hi := 4) (by omega)
    have e0 := Hd.mk (wal_f (p := 5) (by omega))
    go_enter Tryd.func21, Tryd.ntmps21
    go_wp2_with (go_at_call 29; refine (l1In_any _ _ _ _).mono ?_; rintro e w' ⟨rfl, hw⟩; replace hw := hw.symm; subst hw)
    go_ret
    exact ⟨ret_bool e0.out, rfl⟩
  · have i4 : inB p 2 4 = false := in_f (x := p) (lo := 2) (hi := 4) (by omega)
    have q2 : (p == 2) = false := by simp; omega
    have q3 : (p == 3) = false := by simp; omega
    have q4 : (p == 4) = false := by simp; omega
    have q6 : (p == 6) = false := by simp; omega
    have e0 := Hd.mk (wal_f (p := p) (by omega))
    go_enter Tryd.func21, Tryd.ntmps21
    go_wp2_with (go_at_call 29; refine (l1In_any _ _ _ _).mono ?_; rintro e w' ⟨rfl, hw⟩; replace hw := hw.symm; subst hw)
    go_ret
    exact ⟨ret_bool e0.out, rfl⟩

end Go.Proofs.YtjpfkjehlaepbaaDoor
