/- Plain facts on the bytes of a sign in the set of two bytes. -/
import Derived.Test.YtpafjehphajbhaaGreatDoorPairA
import Derived.Test.YtpafjehphajbhaaGreatDoorUni
namespace Go.Proofs.YtpafjehphajbhaaGreatDoor
set_option maxRecDepth 4000
open Go.RowKit

/-- The bytes of a sign in that set; none, when it has none. -/
def eucB (n : Int) : List UInt8 := if 0 ≤ n ∧ n ≤ 127 then [bt n.toNat] else if spOk n = true then [bt (spA n).toNat, bt (spB n).toNat] else []
def eucOk (n : Int) : Bool := if 0 ≤ n ∧ n ≤ 127 then true else spOk n
theorem eucB_one {n : Nat} (h : n < 128) : eucB (n : Int) = [bt n] ∧ eucOk (n : Int) = true := by
  have k : 0 ≤ (n : Int) ∧ (n : Int) ≤ 127 := by omega
  unfold eucB eucOk; rw [if_pos k, if_pos k, Int.toNat_natCast]; exact ⟨rfl, rfl⟩
theorem eucB_two {n : Int} {a b : Nat} (h : spOk n = true) (ha : spA n = (a : Int)) (hb : spB n = (b : Int)) : eucB n = [bt a, bt b] ∧ eucOk n = true := by
  have k : ¬(0 ≤ n ∧ n ≤ 127) := by
    intro k
    have := (sp_no (n := n) (by omega) (by omega)).2.2
    rw [this] at h; cases h
  unfold eucB eucOk; rw [if_neg k, if_neg k, if_pos h, ha, hb, Int.toNat_natCast, Int.toNat_natCast]; exact ⟨rfl, h⟩
theorem eucB_no {n : Int} (k : ¬(0 ≤ n ∧ n ≤ 127)) (h : spOk n = false) : eucB n = [] ∧ eucOk n = false := by
  unfold eucB eucOk; rw [if_neg k, if_neg k, if_neg (by rw [h]; simp)]; exact ⟨rfl, h⟩
theorem eucB_len (n : Int) : (eucB n).length ≤ 2 := by
  unfold eucB; repeat' split
  all_goals simp
theorem sp_above {n : Int} (h : spOk n = true) : 127 < n ∧ n ≤ 9223372036854775807 := by
  by_cases h1 : 12353 ≤ n ∧ n ≤ 12435
  · omega
  · by_cases h2 : 12449 ≤ n ∧ n ≤ 12534
    · omega
    · rw [(sp_no h1 h2).2.2] at h; cases h

end Go.Proofs.YtpafjehphajbhaaGreatDoor
