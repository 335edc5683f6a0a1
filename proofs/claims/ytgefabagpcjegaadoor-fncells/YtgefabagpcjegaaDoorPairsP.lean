/- Plain facts on signs of two bytes: which sign two bytes stand for, and back. -/
import Derived.Test.YtgefabagpcjegaaDoorPlain
namespace Go.Proofs.YtgefabagpcjegaaDoor
set_option maxRecDepth 4000
open Go.RowKit

/-- The sign of two bytes (0 beside a false), and whether there is one. -/
def psN (hi lo : Int) : Int := if hi = 164 ∧ 161 ≤ lo ∧ lo ≤ 243 then 12192 + lo else if hi = 165 ∧ 161 ≤ lo ∧ lo ≤ 246 then 12288 + lo else 0
def psOk (hi lo : Int) : Bool := if hi = 164 ∧ 161 ≤ lo ∧ lo ≤ 243 then true else if hi = 165 ∧ 161 ≤ lo ∧ lo ≤ 246 then true else false
/-- The two bytes of a sign (0 and 0 beside a false), and whether there are some. -/
def spA (n : Int) : Int := if 12353 ≤ n ∧ n ≤ 12435 then 164 else if 12449 ≤ n ∧ n ≤ 12534 then 165 else 0
def spB (n : Int) : Int := if 12353 ≤ n ∧ n ≤ 12435 then n - 12192 else if 12449 ≤ n ∧ n ≤ 12534 then n - 12288 else 0
def spOk (n : Int) : Bool := if 12353 ≤ n ∧ n ≤ 12435 then true else if 12449 ≤ n ∧ n ≤ 12534 then true else false

theorem ps_one {hi lo : Int} (h : hi = 164) (h1 : 161 ≤ lo) (h2 : lo ≤ 243) : psN hi lo = 12192 + lo ∧ psOk hi lo = true := by
  unfold psN psOk; rw [if_pos ⟨h, h1, h2⟩, if_pos ⟨h, h1, h2⟩]; exact ⟨rfl, rfl⟩
theorem ps_two {hi lo : Int} (h : hi = 165) (h1 : 161 ≤ lo) (h2 : lo ≤ 246) : psN hi lo = 12288 + lo ∧ psOk hi lo = true := by
  have k : ¬(hi = 164 ∧ 161 ≤ lo ∧ lo ≤ 243) := by omega
  unfold psN psOk; rw [if_neg k, if_neg k, if_pos ⟨h, h1, h2⟩, if_pos ⟨h, h1, h2⟩]; exact ⟨rfl, rfl⟩
theorem ps_no {hi lo : Int} (h : ¬(hi = 164 ∧ 161 ≤ lo ∧ lo ≤ 243)) (k : ¬(hi = 165 ∧ 161 ≤ lo ∧ lo ≤ 246)) : psN hi lo = 0 ∧ psOk hi lo = false := by
  unfold psN psOk; rw [if_neg h, if_neg h, if_neg k, if_neg k]; exact ⟨rfl, rfl⟩
theorem sp_one {n : Int} (h1 : 12353 ≤ n) (h2 : n ≤ 12435) : spA n = 164 ∧ spB n = n - 12192 ∧ spOk n = true := by
  unfold spA spB spOk; rw [if_pos ⟨h1, h2⟩, if_pos ⟨h1, h2⟩, if_pos ⟨h1, h2⟩]; exact ⟨rfl, rfl, rfl⟩
theorem sp_two {n : Int} (h1 : 12449 ≤ n) (h2 : n ≤ 12534) : spA n = 165 ∧ spB n = n - 12288 ∧ spOk n = true := by
  have k : ¬(12353 ≤ n ∧ n ≤ 12435) := by omega
  unfold spA spB spOk; rw [if_neg k, if_neg k, if_neg k, if_pos ⟨h1, h2⟩, if_pos ⟨h1, h2⟩, if_pos ⟨h1, h2⟩]; exact ⟨rfl, rfl, rfl⟩
theorem sp_no {n : Int} (h : ¬(12353 ≤ n ∧ n ≤ 12435)) (k : ¬(12449 ≤ n ∧ n ≤ 12534)) : spA n = 0 ∧ spB n = 0 ∧ spOk n = false := by
  unfold spA spB spOk; rw [if_neg h, if_neg h, if_neg h, if_neg k, if_neg k, if_neg k]; exact ⟨rfl, rfl, rfl⟩
/-- Two bytes that stand for a sign come back of it. -/
theorem sp_ps {hi lo : Int} (h : psOk hi lo = true) : spA (psN hi lo) = hi ∧ spB (psN hi lo) = lo ∧ spOk (psN hi lo) = true := by
  by_cases h1 : hi = 164 ∧ 161 ≤ lo ∧ lo ≤ 243
  · rw [(ps_one h1.1 h1.2.1 h1.2.2).1]
    obtain ⟨a, b, c⟩ := sp_one (n := 12192 + lo) (by omega) (by omega)
    exact ⟨by omega, by omega, c⟩
  · by_cases h2 : hi = 165 ∧ 161 ≤ lo ∧ lo ≤ 246
    · rw [(ps_two h2.1 h2.2.1 h2.2.2).1]
      obtain ⟨a, b, c⟩ := sp_two (n := 12288 + lo) (by omega) (by omega)
      exact ⟨by omega, by omega, c⟩
    · rw [(ps_no h1 h2).2] at h; cases h
/-- A sign of two bytes is no sign of one. -/
theorem ps_big {hi lo : Int} (h : psOk hi lo = true) : 12353 ≤ psN hi lo ∧ psN hi lo ≤ 12534 ∧ 164 ≤ hi ∧ hi ≤ 165 ∧ 161 ≤ lo ∧ lo ≤ 246 := by
  by_cases h1 : hi = 164 ∧ 161 ≤ lo ∧ lo ≤ 243
  · rw [(ps_one h1.1 h1.2.1 h1.2.2).1]; omega
  · by_cases h2 : hi = 165 ∧ 161 ≤ lo ∧ lo ≤ 246
    · rw [(ps_two h2.1 h2.2.1 h2.2.2).1]; omega
    · rw [(ps_no h1 h2).2] at h; cases h
theorem sp_in (n : Int) : 0 ≤ spA n ∧ spA n ≤ 255 ∧ 0 ≤ spB n ∧ spB n ≤ 255 := by
  by_cases h1 : 12353 ≤ n ∧ n ≤ 12435
  · obtain ⟨a, b, _⟩ := sp_one h1.1 h1.2; omega
  · by_cases h2 : 12449 ≤ n ∧ n ≤ 12534
    · obtain ⟨a, b, _⟩ := sp_two h2.1 h2.2; omega
    · obtain ⟨a, b, _⟩ := sp_no h1 h2; omega

end Go.Proofs.YtgefabagpcjegaaDoor
