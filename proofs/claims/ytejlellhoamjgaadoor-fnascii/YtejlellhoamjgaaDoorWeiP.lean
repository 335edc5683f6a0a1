/- Plain facts on weights: what a sign weighs, the program's rows of it, the sum over signs. -/
import Derived.Test.YtejlellhoamjgaaDoorBase
namespace Go.Proofs.YtejlellhoamjgaaDoor
set_option maxRecDepth 4000
open Go.RowKit

/-- What a number weighs, as the specification has it. -/
def wei (n : Int) : Int :=
  if n = 32 ∨ (97 ≤ n ∧ n ≤ 122) ∨ (48 ≤ n ∧ n ≤ 57) then 3
  else if (65 ≤ n ∧ n ≤ 90) ∨ (192 ≤ n ∧ n ≤ 591) ∨ (1024 ≤ n ∧ n ≤ 1119) ∨ (12353 ≤ n ∧ n ≤ 12543) then 2
  else if n = 9 ∨ n = 10 ∨ n = 13 then 0
  else if n < 32 ∨ (127 ≤ n ∧ n ≤ 159) then -5
  else 0
theorem wei_small (n : Int) : -5 ≤ wei n ∧ wei n ≤ 3 := by
  unfold wei
  repeat' split
  all_goals omega

/-- The program's rows: first, last, weight. -/
def weiT : List Int := [0, 8, -5, 11, 12, -5, 14, 31, -5, 32, 32, 3, 48, 57, 3, 65, 90, 2, 97, 122, 3, 127, 159, -5, 192, 591, 2, 1024, 1119, 2, 12353, 12543, 2]
def weiA (k : Nat) : Int := weiT.getD (3 * k) 0
def weiB (k : Nat) : Int := weiT.getD (3 * k + 1) 0
def weiC (k : Nat) : Int := weiT.getD (3 * k + 2) 0
theorem wei_hit (n : Int) : ∀ k, k < 11 → weiA k ≤ n → n ≤ weiB k → weiC k = wei n
  | 0, _, h1, h2 | 1, _, h1, h2 | 2, _, h1, h2 | 3, _, h1, h2 | 4, _, h1, h2 | 5, _, h1, h2 | 6, _, h1, h2 | 7, _, h1, h2 | 8, _, h1, h2 | 9, _, h1, h2 | 10, _, h1, h2 => by
    simp only [weiA, weiB, weiC, weiT, List.getD_eq_getElem?_getD, Nat.reduceMul, Nat.reduceAdd, List.getElem?_cons_zero, List.getElem?_cons_succ, Option.getD_some] at h1 h2 ⊢
    unfold wei
    repeat' split
    all_goals omega
/-- The first k rows do not hold n. -/
structure NoRow (n : Int) (k : Nat) : Prop where
  out : ∀ j, j < k → ¬ (weiA j ≤ n ∧ n ≤ weiB j)
theorem noRow_zero (n : Int) : NoRow n 0 := ⟨fun j hj => absurd hj (Nat.not_lt_zero j)⟩
theorem NoRow.next {n : Int} {k : Nat} (h : NoRow n k) (hn : ¬ (weiA k ≤ n ∧ n ≤ weiB k)) : NoRow n (k + 1) := ⟨fun j hj => by
  by_cases e : j = k
  · subst e; exact hn
  · exact h.out j (by omega)⟩
theorem wei_none {n : Int} (h0 : 0 ≤ n) (h : NoRow n 11) : 0 = wei n := by
  have a0 := h.out 0 (by omega)
  have a1 := h.out 1 (by omega)
  have a2 := h.out 2 (by omega)
  have a3 := h.out 3 (by omega)
  have a4 := h.out 4 (by omega)
  have a5 := h.out 5 (by omega)
  have a6 := h.out 6 (by omega)
  have a7 := h.out 7 (by omega)
  have a8 := h.out 8 (by omega)
  have a9 := h.out 9 (by omega)
  have b0 := h.out 10 (by omega)
  simp only [weiA, weiB, weiT, List.getD_eq_getElem?_getD, Nat.reduceMul, Nat.reduceAdd, List.getElem?_cons_zero, List.getElem?_cons_succ, Option.getD_some] at a0 a1 a2 a3 a4 a5 a6 a7 a8 a9 b0
  unfold wei
  repeat' split
  all_goals omega

/-- The sum of the weights of signs. -/
def wsum : List Int → Int
  | [] => 0
  | n :: l => wei n + wsum l
theorem wsum_app (l m : List Int) : wsum (l ++ m) = wsum l + wsum m := by
  induction l with
  | nil => simp [wsum]
  | cons n l ih => rw [List.cons_append, wsum, wsum, ih]; omega
theorem wsum_snoc (l : List Int) (n : Int) : wsum (l ++ [n]) = wsum l + wei n := by rw [wsum_app]; simp [wsum]
theorem wsum_small (l : List Int) : -(5 * (l.length : Int)) ≤ wsum l ∧ wsum l ≤ 3 * (l.length : Int) := by
  induction l with
  | nil => simp [wsum]
  | cons n l ih =>
    have := wei_small n
    rw [wsum, List.length_cons]
    omega

end Go.Proofs.YtejlellhoamjgaaDoor
