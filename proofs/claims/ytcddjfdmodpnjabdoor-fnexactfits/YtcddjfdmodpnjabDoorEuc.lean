/- Contracts of EucSign, in the program (over its table) and in the specification. -/
import Derived.Test.YtcddjfdmodpnjabDoorPairsB
namespace Go.Proofs.YtcddjfdmodpnjabDoor
open Go.RowKit

/-- What EucSign answers of the bytes bs at a place: the sign, the place behind it, and whether there is one. -/
def eucAt (bs : List UInt8) (at_ : Int) : Int × Int × Bool :=
  if 0 ≤ at_ ∧ at_ < (bs.length : Int) then
    (if (bs.getD at_.toNat 0).toNat < 128 then (((bs.getD at_.toNat 0).toNat : Int), at_ + 1, true)
    else if at_ + 1 < (bs.length : Int) ∧ psOk ((bs.getD at_.toNat 0).toNat : Int) ((bs.getD (at_.toNat + 1) 0).toNat : Int) = true then (psN ((bs.getD at_.toNat 0).toNat : Int) ((bs.getD (at_.toNat + 1) 0).toNat : Int), at_ + 2, true) else (0, 0, false))
  else (0, 0, false)
theorem euc_out {bs : List UInt8} {at_ : Int} (h : ¬(0 ≤ at_ ∧ at_ < (bs.length : Int))) : eucAt bs at_ = (0, 0, false) := if_neg h
theorem euc_one {bs : List UInt8} {k x : Nat} (h : k < bs.length) (hx : (bs.getD k 0).toNat = x) (h1 : x < 128) : eucAt bs (k : Int) = ((x : Int), (k : Int) + 1, true) := by
  unfold eucAt
  rw [if_pos (by omega), Int.toNat_natCast, hx, if_pos h1]
theorem euc_last {bs : List UInt8} {k x : Nat} (h : k + 1 = bs.length) (hx : (bs.getD k 0).toNat = x) (h1 : 128 ≤ x) : eucAt bs (k : Int) = (0, 0, false) := by
  unfold eucAt
  rw [if_pos (by omega), Int.toNat_natCast, hx, if_neg (by omega), if_neg (by omega)]
theorem euc_yes {bs : List UInt8} {k x y : Nat} (h : k + 1 < bs.length) (hx : (bs.getD k 0).toNat = x) (hy : (bs.getD (k + 1) 0).toNat = y) (h1 : 128 ≤ x) (h2 : psOk (x : Int) (y : Int) = true) : eucAt bs (k : Int) = (psN (x : Int) (y : Int), (k : Int) + 2, true) := by
  unfold eucAt
  rw [if_pos (by omega), Int.toNat_natCast, hx, hy, if_neg (by omega), if_pos ⟨by omega, h2⟩]
theorem euc_no {bs : List UInt8} {k x y : Nat} (h : k + 1 < bs.length) (hx : (bs.getD k 0).toNat = x) (hy : (bs.getD (k + 1) 0).toNat = y) (h1 : 128 ≤ x) (h2 : psOk (x : Int) (y : Int) = false) : eucAt bs (k : Int) = (0, 0, false) := by
  unfold eucAt
  rw [if_pos (by omega), Int.toNat_natCast, hx, hy, if_neg (by omega), if_neg (by rw [h2]; simp)]
theorem ps_lack (x : Int) : psN x (-1) = 0 ∧ psOk x (-1) = false := ps_no (by omega) (by omega)

end Go.Proofs.YtcddjfdmodpnjabDoor
