/- Plain facts on lists that go up; on what a node knows that is right. -/
import Derived.Test.YtlididoalekeoaaGreatDoorPartP
import Derived.Test.YtlididoalekeoaaGreatDoorRecP
namespace Go.Proofs.YtlididoalekeoaaGreatDoor
set_option maxRecDepth 4000
open Go.RowKit

/-- Each is less than the next. -/
def ascB {α : Type} (lt : α → α → Bool) : List α → Bool
  | a :: b :: r => lt a b && ascB lt (b :: r)
  | _ => true
theorem ascB_end {α : Type} {lt : α → α → Bool} {l : List α} {j : Nat} (h : l.length ≤ j + 1) : ascB lt (l.drop j) = true := by
  have h2 : (l.drop j).length ≤ 1 := by rw [List.length_drop]; omega
  match hl : l.drop j with
  | [] => rfl
  | [_] => rfl
  | _ :: _ :: _ => rw [hl] at h2; simp at h2
theorem ascB_at {α : Type} {lt : α → α → Bool} {l : List α} {j : Nat} {a b : α} (ha : l[j]? = some a) (hb : l[j + 1]? = some b) : ascB lt (l.drop j) = (lt a b && ascB lt (l.drop (j + 1))) := by
  obtain ⟨h1, rfl⟩ := List.getElem?_eq_some_iff.1 ha
  obtain ⟨h2, rfl⟩ := List.getElem?_eq_some_iff.1 hb
  rw [List.drop_eq_getElem_cons h1, List.drop_eq_getElem_cons h2, ascB]
def ltRow (a b : RowD) : Bool := Op.bytesLess a.key.toList b.key.toList
def ltMark (a b : MarkD) : Bool := decide (a.who < b.who)
def markOk (m : MarkD) : Bool := inB m.who 1 9 && inB m.seq 0 65535 && inB m.code 0 6
def tabOk (t : TabD) : Bool := decide (t.rows.length ≤ 8) && ascB ltRow t.rows && ascB ltMark t.marks && t.rows.all rOk && t.marks.all markOk && inB t.phase 0 7
theorem recOk_row (r : RowD) : recOk (rowR r) = rOk r := by
  simp [recOk, rowR, whoB, inB]
theorem recOk_mark (m : MarkD) : recOk (markR m) = markOk m := by
  by_cases h : m.who = 0
  · simp [recOk, markR, whoB, markOk, h, inB]
  · simp [recOk, markR, whoB, markOk, h, noRowB, noneB, show inB 4 1 4 = true from rfl]
theorem recOk_phase (p : Int) : recOk (phaseR p) = inB p 0 7 := by
  simp [recOk, phaseR, whoB, noRowB, noneB, show inB 3 1 4 = true from rfl]
theorem parts_ok (t : TabD) : (partsL t).all recOk = (inB t.phase 0 7 && t.rows.all rOk && t.marks.all markOk) := by
  unfold partsL
  rw [List.all_cons, List.all_append, recOk_phase, List.all_map, List.all_map]
  have h1 : (recOk ∘ rowR) = rOk := by funext r; exact recOk_row r
  have h2 : (recOk ∘ markR) = markOk := by funext m; exact recOk_mark m
  rw [h1, h2, Bool.and_assoc]

end Go.Proofs.YtlididoalekeoaaGreatDoor
