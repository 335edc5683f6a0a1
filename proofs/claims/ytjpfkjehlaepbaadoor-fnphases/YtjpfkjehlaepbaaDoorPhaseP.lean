/- Plain facts of phases: what may follow what, and what is reached. -/
import Derived.Test.YtjpfkjehlaepbaaDoorPlain
namespace Go.Proofs.YtjpfkjehlaepbaaDoor
set_option maxRecDepth 4000
open Go.RowKit

def nextB (a b : Int) : Bool := decide ((0 ≤ a ∧ a ≤ 4 ∧ b = a + 1) ∨ (0 ≤ a ∧ a ≤ 3 ∧ b = 6) ∨ (a = 6 ∧ b = 7))
def finB (p : Int) : Bool := decide (p = 5 ∨ p = 7)
def walB (p : Int) : Bool := decide ((2 ≤ p ∧ p ≤ 4) ∨ p = 6)
def reaB (a b : Int) : Bool := decide (a = b ∨ (0 ≤ a ∧ a ≤ b ∧ b ≤ 5) ∨ (0 ≤ a ∧ a ≤ 3 ∧ 6 ≤ b ∧ b ≤ 7) ∨ (a = 6 ∧ b = 7))
theorem next_t {a b : Int} (h : (0 ≤ a ∧ a ≤ 4 ∧ b = a + 1) ∨ (0 ≤ a ∧ a ≤ 3 ∧ b = 6) ∨ (a = 6 ∧ b = 7)) : true = nextB a b := (decide_eq_true h).symm
theorem next_f {a b : Int} (h : ¬ ((0 ≤ a ∧ a ≤ 4 ∧ b = a + 1) ∨ (0 ≤ a ∧ a ≤ 3 ∧ b = 6) ∨ (a = 6 ∧ b = 7))) : false = nextB a b := (decide_eq_false h).symm
theorem fin_t {p : Int} (h : p = 5 ∨ p = 7) : true = finB p := (decide_eq_true h).symm
theorem fin_f {p : Int} (h : ¬ (p = 5 ∨ p = 7)) : false = finB p := (decide_eq_false h).symm
theorem wal_t {p : Int} (h : (2 ≤ p ∧ p ≤ 4) ∨ p = 6) : true = walB p := (decide_eq_true h).symm
theorem wal_f {p : Int} (h : ¬ ((2 ≤ p ∧ p ≤ 4) ∨ p = 6)) : false = walB p := (decide_eq_false h).symm
theorem next_up {a p : Int} (h : nextB a p = true) : 0 ≤ a ∧ a < p ∧ p ≤ 7 := by
  have := of_decide_eq_true h
  omega
theorem rea_self (a : Int) : reaB a a = true := decide_eq_true (.inl rfl)
theorem rea_step {a p b : Int} (h : nextB a p = true) (h2 : reaB p b = true) : reaB a b = true := by
  have h := of_decide_eq_true h
  have h2 := of_decide_eq_true h2
  apply decide_eq_true
  omega
theorem rea_split {a b : Int} (hn : a ≠ b) (h : reaB a b = true) : ∃ p, 0 ≤ p ∧ p < 8 ∧ nextB a p = true ∧ reaB p b = true := by
  have h := of_decide_eq_true h
  by_cases h6 : a = 6
  · exact ⟨7, by omega, by omega, decide_eq_true (by omega), decide_eq_true (by omega)⟩
  · by_cases hb : b ≤ 5
    · exact ⟨a + 1, by omega, by omega, decide_eq_true (by omega), decide_eq_true (by omega)⟩
    · exact ⟨6, by omega, by omega, decide_eq_true (by omega), decide_eq_true (by omega)⟩
/-- From a there is no way to b by a phase below k. -/
structure NoWay (a b : Int) (k : Nat) : Prop where
  ne : a ≠ b
  le : k ≤ 8
  out : ∀ p : Int, 0 ≤ p → p < (k : Int) → nextB a p = true → reaB p b = false
theorem noWay_zero {a b : Int} (h : a ≠ b) : NoWay a b 0 := ⟨h, by omega, fun p h1 h2 => by omega⟩
theorem noWay_next {a b : Int} {k : Nat} (h : NoWay a b k) (hk : k < 8) (hn : nextB a (k : Int) = false) : NoWay a b (k + 1) := by
  refine ⟨h.ne, by omega, fun p h1 h2 h3 => ?_⟩
  by_cases e : p = (k : Int)
  · subst e; rw [hn] at h3; cases h3
  · exact h.out p h1 (by omega) h3
theorem noWay_past {a b : Int} {k : Nat} (h : NoWay a b k) (hk : k < 8) (hr : reaB (k : Int) b = false) : NoWay a b (k + 1) := by
  refine ⟨h.ne, by omega, fun p h1 h2 h3 => ?_⟩
  by_cases e : p = (k : Int)
  · subst e; exact hr
  · exact h.out p h1 (by omega) h3
theorem noWay_end {a b : Int} {k : Nat} (h : NoWay a b k) (hk : ¬ (k : Int) < 8) : false = reaB a b := by
  cases hr : reaB a b with
  | false => rfl
  | true =>
    obtain ⟨p, h1, h2, h3, h4⟩ := rea_split h.ne hr
    rw [h.out p h1 (by omega) h3] at h4
    cases h4
theorem next_law {a b : Int} (h : nextB a b = true) : reaB b a = false ∧ reaB a b = true ∧ finB a = false := by
  have h := of_decide_eq_true h
  exact ⟨decide_eq_false (by omega), decide_eq_true (by omega), decide_eq_false (by omega)⟩
theorem rea_final {a : Int} (h1 : 0 ≤ a) (h2 : a < 8) (h : reaB a 5 = false) : reaB a 7 = true := by
  have h := of_decide_eq_false h
  exact decide_eq_true (by omega)

end Go.Proofs.YtjpfkjehlaepbaaDoor
