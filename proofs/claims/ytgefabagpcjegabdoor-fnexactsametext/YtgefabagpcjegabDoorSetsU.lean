/- Contracts of SignByte, in the program and in the specification: both look through the bytes in turn. -/
import Derived.Test.YtgefabagpcjegabDoorSetsT
namespace Go.Proofs.YtgefabagpcjegabDoor
set_option maxRecDepth 4000
open Go.RowKit

/-- The answers of SignByte. -/
def sbN (cs n : Int) : Int := (sbOf cs n).1
def sbOk (cs n : Int) : Bool := (sbOf cs n).2
/-- Byte k is next to be looked at. -/
structure LookAt (cs n : Int) (k : Nat) : Prop where
  out : look cs n (256 - k) (k : Int) = sbOf cs n
  le : k ≤ 256
theorem lookAt_zero (cs n : Int) : LookAt cs n 0 := ⟨rfl, by omega⟩
theorem sb_yes {cs n : Int} {k : Nat} (hk : (k : Int) < 256) (h0 : LookAt cs n k) (hm : bsOk cs (k : Int) = true ∧ bsN cs (k : Int) = n) : Hd ((k : Int) = sbN cs n) ∧ Hd (true = sbOk cs n) := by
  have h := h0.out
  rw [show 256 - k = (255 - k) + 1 from by omega, look_yes hm] at h
  exact ⟨⟨by unfold sbN; rw [← h]⟩, ⟨by unfold sbOk; rw [← h]⟩⟩
theorem sb_next {cs n : Int} {k : Nat} (hk : (k : Int) < 256) (h0 : LookAt cs n k) (hm : ¬(bsOk cs (k : Int) = true ∧ bsN cs (k : Int) = n)) : LookAt cs n (k + 1) := by
  have h := h0.out
  rw [show 256 - k = (256 - (k + 1)) + 1 from by omega, look_no hm] at h
  exact ⟨by rw [show ((k + 1 : Nat) : Int) = (k : Int) + 1 from by omega]; exact h, by omega⟩
theorem sb_end {cs n : Int} {k : Nat} (hk : ¬ (k : Int) < 256) (h0 : LookAt cs n k) : Hd ((0 : Int) = sbN cs n) ∧ Hd (false = sbOk cs n) := by
  have h := h0.out
  rw [show 256 - k = 0 from by omega] at h
  exact ⟨⟨by unfold sbN; rw [← h]; rfl⟩, ⟨by unfold sbOk; rw [← h]; rfl⟩⟩

end Go.Proofs.YtgefabagpcjegabDoor
