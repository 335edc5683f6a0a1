/- Plain facts on lists that are gone through, each held against the one ahead of it. -/
import Derived.Test.YtlididoalekeoaaGreatDoorAscP
namespace Go.Proofs.YtlididoalekeoaaGreatDoor
set_option maxRecDepth 4000
open Go.RowKit

def chk {α : Type} (ok : α → Bool) (lt : α → α → Bool) : Option α → List α → Bool
  | _, [] => true
  | none, a :: r => ok a && chk ok lt (some a) r
  | some b, a :: r => ok a && lt b a && chk ok lt (some a) r
def prevOf {α : Type} (l : List α) (k : Nat) : Option α := if k = 0 then none else l[k - 1]?
theorem chk_end {α : Type} {ok : α → Bool} {lt : α → α → Bool} {l : List α} {k : Nat} (p : Option α) (h : l.length ≤ k) : chk ok lt p (l.drop k) = true := by
  rw [List.drop_of_length_le h]; cases p <;> rfl
theorem chk_zero {α : Type} {ok : α → Bool} {lt : α → α → Bool} {l : List α} {a : α} (h : l[0]? = some a) : chk ok lt (prevOf l 0) (l.drop 0) = (ok a && chk ok lt (prevOf l 1) (l.drop 1)) := by
  cases l with
  | nil => simp at h
  | cons b r =>
    simp at h
    subst h
    rfl
theorem chk_succ {α : Type} {ok : α → Bool} {lt : α → α → Bool} {l : List α} {j : Nat} {a b : α} (hb : l[j]? = some b) (h : l[j + 1]? = some a) : chk ok lt (prevOf l (j + 1)) (l.drop (j + 1)) = (ok a && lt b a && chk ok lt (prevOf l (j + 2)) (l.drop (j + 2))) := by
  obtain ⟨h1, rfl⟩ := List.getElem?_eq_some_iff.1 h
  rw [List.drop_eq_getElem_cons h1]
  show chk ok lt l[j]? _ = (_ && chk ok lt l[j + 1]? _)
  rw [hb, h]
  rfl
theorem chk_all {α : Type} {ok : α → Bool} {lt : α → α → Bool} : ∀ (l : List α), chk ok lt none l = (ascB lt l && l.all ok)
  | [] => rfl
  | a :: r => by
    rw [chk, List.all_cons]
    induction r generalizing a with
    | nil => simp [chk, ascB]
    | cons b s ih =>
      have h := ih b
      rw [chk, List.all_cons, ascB]
      generalize chk ok lt (some b) s = c at *
      generalize ascB lt (b :: s) = d at *
      generalize s.all ok = e at *
      revert h
      cases ok a <;> cases ok b <;> cases lt a b <;> cases c <;> cases d <;> cases e <;> simp
theorem chk_start {α : Type} {ok : α → Bool} {lt : α → α → Bool} (l : List α) : chk ok lt (prevOf l 0) (l.drop 0) = (ascB lt l && l.all ok) := chk_all l

end Go.Proofs.YtlididoalekeoaaGreatDoor
