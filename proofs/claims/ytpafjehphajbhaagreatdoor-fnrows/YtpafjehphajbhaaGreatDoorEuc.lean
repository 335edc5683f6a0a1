/- Contracts of EucSign, in the program (over its table) and in the specification. -/
import Derived.Test.YtpafjehphajbhaaGreatDoorPairA
namespace Go.Proofs.YtpafjehphajbhaaGreatDoor
set_option maxRecDepth 4000
open Go.RowKit

/-- What EucSign answers of the bytes bs at a place: the sign, the place behind it, and whether there is one. -/
def eucAt (bs : List UInt8) (at_ : Int) : Int × Int × Bool :=
  if 0 ≤ at_ ∧ at_ < (bs.length : Int) then
    (if (bs.getD at_.toNat 0).toNat < 128 then (((bs.getD at_.toNat 0).toNat : Int), at_ + 1, true)
    else if at_ + 1 < (bs.length : Int) ∧ psOk ((bs.getD at_.toNat 0).toNat : Int) ((bs.getD (at_.toNat + 1) 0).toNat : Int) = true then (psN ((bs.getD at_.toNat 0).toNat : Int) ((bs.getD (at_.toNat + 1) 0).toNat : Int), at_ + 2, true) else (0, 0, false))
  else (0, 0, false)
theorem euc_out {bs : List UInt8} {at_ : Int} (h : ¬(0 ≤ at_ ∧ at_ < (bs.length : Int))) : eucAt bs at_ = (0, 0, false) := if_neg h
theorem euc_one {bs : List UInt8} {k x : Nat} (h : k < bs.length) (hx : (bs.getD k 0).toNat = x) (h1 : x < 128) : eucAt bs (k : Int) = ((x : Int), (k : Int) + 1, true) := by
  unfold eucAt
  rw [if_pos (by omega), Int.toNat_natCast, hx, if_pos h1]
theorem euc_last {bs : List UInt8} {k x : Nat} (h : k + 1 = bs.length) (hx : (bs.getD k 0).toNat = x) (h1 : 128 ≤ x) : eucAt bs (k : Int) = (0, 0, false) := by
  unfold eucAt
  rw [if_pos (by omega), Int.toNat_natCast, hx, if_neg (by omega), if_neg (by omega)]
theorem euc_yes {bs : List UInt8} {k x y : Nat} (h : k + 1 < bs.length) (hx : (bs.getD k 0).toNat = x) (hy : (bs.getD (k + 1) 0).toNat = y) (h1 : 128 ≤ x) (h2 : psOk (x : Int) (y : Int) = true) : eucAt bs (k : Int) = (psN (x : Int) (y : Int), (k : Int) + 2, true) := by
  unfold eucAt
  rw [if_pos (by omega), Int.toNat_natCast, hx, hy, if_neg (by omega), if_pos ⟨by omega, h2⟩]
theorem euc_no {bs : List UInt8} {k x y : Nat} (h : k + 1 < bs.length) (hx : (bs.getD k 0).toNat = x) (hy : (bs.getD (k + 1) 0).toNat = y) (h1 : 128 ≤ x) (h2 : psOk (x : Int) (y : Int) = false) : eucAt bs (k : Int) = (0, 0, false) := by
  unfold eucAt
  rw [if_pos (by omega), Int.toNat_natCast, hx, hy, if_neg (by omega), if_neg (by rw [h2]; simp)]
theorem ps_lack (x : Int) : psN x (-1) = 0 ∧ psOk x (-1) = false := ps_no (by omega) (by omega)

set_option maxHeartbeats 400000 in
theorem implEucSign_out (ao : Option Addr) (len cap : Nat) (at_ : Int) (w : World) (h : at_ < 0 ∨ (len : Int) ≤ at_) :
    Calls Tryz.prog 113 #[.slice ao len cap, .int .i64 at_] w fun e w' => e = .returned (.tuple #[.int .i64 0, .int .i64 0, .bool false]) ∧ Below w.heap.size w w' := by
  by_cases h0 : at_ < 0
  · clear h
    go_enter Tryz.func113, Tryz.ntmps113
    go_wp2_with fail
    go_ret3
    exact ⟨rfl, Below.refl _ _⟩
  · have h1 : (len : Int) ≤ at_ := by omega
    clear h
    go_enter Tryz.func113, Tryz.ntmps113
    go_wp2_with fail
    go_ret3
    exact ⟨rfl, Below.refl _ _⟩

set_option maxHeartbeats 400000 in
theorem implEucSign_one (b off len cap k x : Nat) (w : World) (hl : len ≤ 1073741824) (hk : k < len) (hx : x < 128)
    (hc : w.cell? ⟨b, off + k, none⟩ = some (.int .u8 (x : Int))) :
    Calls Tryz.prog 113 #[.slice (some ⟨b, off, none⟩) len cap, .int .i64 (k : Int)] w fun e w' => e = .returned (.tuple #[.int .i64 (x : Int), .int .i64 ((k : Int) + 1), .bool true]) ∧ Below w.heap.size w w' := by
  have k0 : ¬ (k : Int) < 0 := by omega
  have k1 : (k : Int) < (len : Int) := by omega
  have x1 : (x : Int) ≤ 127 := by omega
  go_enter Tryz.func113, Tryz.ntmps113
  go_wp2_with fail
  go_ret3
  exact ⟨rfl, Below.refl _ _⟩

set_option maxHeartbeats 400000 in
theorem implEucSign_last (b off len cap k x : Nat) (w : World) (hl : len ≤ 1073741824) (hk : k + 1 = len) (hx : 128 ≤ x) (hx2 : x < 256)
    (hc : w.cell? ⟨b, off + k, none⟩ = some (.int .u8 (x : Int))) (T : Hd (PairsAt w)) :
    Calls Tryz.prog 113 #[.slice (some ⟨b, off, none⟩) len cap, .int .i64 (k : Int)] w fun e w' => e = .returned (.tuple #[.int .i64 0, .int .i64 0, .bool false]) ∧ Below w.heap.size w w' := by
  have k0 : ¬ (k : Int) < 0 := by omega
  have k1 : (k : Int) < (len : Int) := by omega
  have k2 : ¬ (k : Int) + 1 < (len : Int) := by omega
  have x1 : ¬ (x : Int) ≤ 127 := by omega
  have p1 := (ps_lack (x : Int)).1
  have p2 := (ps_lack (x : Int)).2
  clear hk
  go_enter Tryz.func113, Tryz.ntmps113
  go_wp2_with fail
  refine (implPairSign_any (x : Int) (-1) _ T).mono ?_
  rintro e w1 ⟨rfl, hB1⟩
  have B1 : Hd (Below w.heap.size w w1) := ⟨hB1⟩
  clear hB1
  rewrite [p1, p2]
  clear p1 p2
  go_wp2_with fail
  go_ret3
  exact ⟨rfl, B1.out⟩

set_option maxHeartbeats 400000 in
theorem implEucSign_two (b off len cap k x y : Nat) (p : Int) (ok : Bool) (w : World) (hl : len ≤ 1073741824) (hk : k + 1 < len) (hx : 128 ≤ x) (hx2 : x < 256) (hy2 : y < 256)
    (hc : w.cell? ⟨b, off + k, none⟩ = some (.int .u8 (x : Int))) (hc2 : w.cell? ⟨b, off + (k + 1), none⟩ = some (.int .u8 (y : Int))) (T : Hd (PairsAt w))
    (P1 : Hd (psN (x : Int) (y : Int) = p)) (P2 : Hd (psOk (x : Int) (y : Int) = ok)) :
    Calls Tryz.prog 113 #[.slice (some ⟨b, off, none⟩) len cap, .int .i64 (k : Int)] w fun e w' => e = .returned (.tuple #[.int .i64 (if ok then p else 0), .int .i64 (if ok then (k : Int) + 2 else 0), .bool ok]) ∧ Below w.heap.size w w' := by
  have k0 : ¬ (k : Int) < 0 := by omega
  have k1 : (k : Int) < (len : Int) := by omega
  have k2 : (k : Int) + 1 < (len : Int) := by omega
  have x1 : ¬ (x : Int) ≤ 127 := by omega
  go_enter Tryz.func113, Tryz.ntmps113
  go_wp2_with fail
  refine (implPairSign_any (x : Int) (y : Int) _ T).mono ?_
  rintro e w1 ⟨rfl, hB1⟩
  have B1 : Hd (Below w.heap.size w w1) := ⟨hB1⟩
  clear hB1
  rewrite [P1.out, P2.out]
  cases ok with
  | true =>
    go_wp2_with fail
    go_ret3
    exact ⟨rfl, B1.out⟩
  | false =>
    go_wp2_with fail
    go_ret3
    exact ⟨rfl, B1.out⟩

set_option maxHeartbeats 400000 in
theorem specEucSign_out (ao : Option Addr) (len cap : Nat) (at_ : Int) (w : World) (hl : len ≤ 1073741824) (h : at_ < 0 ∨ (len : Int) ≤ at_) :
    Calls Tryz.prog 100 #[.slice ao len cap, .int .i64 at_] w fun e w' => e = .returned (.tuple #[.int .i64 0, .int .i64 0, .bool false]) ∧ Below w.heap.size w w' := by
  have hin : inB at_ 0 ((len : Int) - 1) = false := in_f (by omega)
  clear h
  go_enter Tryz.func100, Tryz.ntmps100
  go_wp2_with (go_at_call 40; refine (l1In_any _ _ _ _).mono ?_; rintro e w' ⟨rfl, hw⟩; replace hw := hw.symm; subst hw)
  go_ret3
  exact ⟨rfl, Below.refl _ _⟩

set_option maxHeartbeats 400000 in
theorem specEucSign_one (b off len cap k x : Nat) (w : World) (hl : len ≤ 1073741824) (hk : k < len) (hx : x < 128)
    (hc : w.cell? ⟨b, off + k, none⟩ = some (.int .u8 (x : Int))) :
    Calls Tryz.prog 100 #[.slice (some ⟨b, off, none⟩) len cap, .int .i64 (k : Int)] w fun e w' => e = .returned (.tuple #[.int .i64 (x : Int), .int .i64 ((k : Int) + 1), .bool true]) ∧ Below w.heap.size w w' := by
  have hin : inB (k : Int) 0 ((len : Int) - 1) = true := in_t (by omega)
  have k1 : (k : Int) < (len : Int) := by omega
  have x1 : (x : Int) < 128 := by omega
  go_enter Tryz.func100, Tryz.ntmps100
  go_wp2_with (go_at_call 40; refine (l1In_any _ _ _ _).mono ?_; rintro e w' ⟨rfl, hw⟩; replace hw := hw.symm; subst hw)
  go_ret3
  exact ⟨rfl, Below.refl _ _⟩

set_option maxHeartbeats 400000 in
theorem specEucSign_last (b off len cap k x : Nat) (w : World) (hl : len ≤ 1073741824) (hk : k + 1 = len) (hx : 128 ≤ x) (hx2 : x < 256)
    (hc : w.cell? ⟨b, off + k, none⟩ = some (.int .u8 (x : Int))) :
    Calls Tryz.prog 100 #[.slice (some ⟨b, off, none⟩) len cap, .int .i64 (k : Int)] w fun e w' => e = .returned (.tuple #[.int .i64 0, .int .i64 0, .bool false]) ∧ Below w.heap.size w w' := by
  have hin : inB (k : Int) 0 ((len : Int) - 1) = true := in_t (by omega)
  have k1 : (k : Int) < (len : Int) := by omega
  have k2 : ¬ (k : Int) + 1 < (len : Int) := by omega
  have x1 : decide ((x : Int) < 128) = false := decide_eq_false (by omega)
  have x2 : (x : Int) < 256 := by omega
  clear hx hx2
  clear hk
  go_enter Tryz.func100, Tryz.ntmps100
  go_wp2_with (go_at_call 40; refine (l1In_any _ _ _ _).mono ?_; rintro e w' ⟨rfl, hw⟩; replace hw := hw.symm; subst hw)
  go_ret3
  exact ⟨rfl, Below.refl _ _⟩

theorem specPairSign_is {x y p : Int} {ok : Bool} (h1 : Hd (psN x y = p)) (h2 : Hd (psOk x y = ok)) (w : World) :
    Calls Tryz.prog 109 #[.int .i64 x, .int .i64 y] w fun e w' => e = .returned (.tuple #[.int .i64 p, .bool ok]) ∧ w' = w := by
  rw [← h1.out, ← h2.out]; exact specPairSign_any x y w

set_option maxHeartbeats 400000 in
theorem specEucSign_two (b off len cap k x y : Nat) (p : Int) (ok : Bool) (w : World) (hl : len ≤ 1073741824) (hk : k + 1 < len) (hx : 128 ≤ x) (hx2 : x < 256) (hy2 : y < 256)
    (hc : w.cell? ⟨b, off + k, none⟩ = some (.int .u8 (x : Int))) (hc2 : w.cell? ⟨b, off + (k + 1), none⟩ = some (.int .u8 (y : Int)))
    (P1 : Hd (psN (x : Int) (y : Int) = p)) (P2 : Hd (psOk (x : Int) (y : Int) = ok)) :
    Calls Tryz.prog 100 #[.slice (some ⟨b, off, none⟩) len cap, .int .i64 (k : Int)] w fun e w' => e = .returned (.tuple #[.int .i64 (if ok then p else 0), .int .i64 (if ok then (k : Int) + 2 else 0), .bool ok]) ∧ Below w.heap.size w w' := by
  have hin : inB (k : Int) 0 ((len : Int) - 1) = true := in_t (by omega)
  have k1 : (k : Int) < (len : Int) := by omega
  have K2 : Hd ((k : Int) + 1 < (len : Int)) := ⟨by omega⟩
  have k3 : decide ((len : Int) ≤ (k : Int) + 1) = false := decide_eq_false (by omega)
  have x1 : decide ((x : Int) < 128) = false := decide_eq_false (by omega)
  have x2 : (x : Int) < 256 := by omega
  have y2 : (y : Int) < 256 := by omega
  clear hx hx2 hy2 hk
  go_enter Tryz.func100, Tryz.ntmps100
  go_wp2_with (go_at_call 40; refine (l1In_any _ _ _ _).mono ?_; rintro e w' ⟨rfl, hw⟩; replace hw := hw.symm; subst hw)
  have k2 := K2.out
  go_quiet (first | (go_at_call 109; exact Calls.quiet_of_same (specPairSign_is P1 P2 _)))
  have kb : (k : Int) ≤ 1073741824 := by omega
  clear k1 k2 K2 k3 x1 x2 y2 hin hc hc2 hl
  cases ok with
  | true =>
    go_wp2_with fail
    go_ret3
    exact ⟨rfl, below_drewN' _ _ _⟩
  | false =>
    go_wp2_with fail
    go_ret3
    exact ⟨rfl, below_drewN' _ _ _⟩

end Go.Proofs.YtpafjehphajbhaaGreatDoor
