/- Plain facts for the law of texts. -/
import Derived.Test.YtnfjmpljfplahaaSignsLaw
import Derived.Test.YtnfjmpljfplahaaText
namespace Go.Proofs.Ytnfjmpljfplahaa
open Go.RowKit

/-- Numbers that lie there, to be read. -/
structure LiesI (w : World) (q n : Nat) (l : List Int) : Prop where
  size : l.length = n
  lt : q < w.heap.size
  cell : ∀ j, j < n → w.cell? ⟨q, j, none⟩ = some (.int .i64 (l.getD j 0))
theorem LiesI.below {w w' : World} {q n : Nat} {l : List Int} (h : LiesI w q n l) (hb : Below w.heap.size w w') : LiesI w' q n l :=
  ⟨h.size, by have := hb.size; have := h.lt; omega, fun j hj => (hb.cell (p := ⟨q, j, none⟩) h.lt).trans (h.cell j hj)⟩
theorem LiesI.reads {w : World} {q n : Nat} {l : List Int} (h : LiesI w q n l) : ReadsI w (some ⟨q, 0, none⟩) n l :=
  ⟨h.size, .inr ⟨q, 0, rfl, fun j hj => by rw [Nat.zero_add]; exact h.cell j hj⟩⟩
theorem OwnI.lies {w : World} {g c n : Nat} {l : List Int} (h : OwnI w g c l) (hn : l.length = n) : LiesI w g n l := ⟨hn, h.lt, fun j hj => h.row.cell j (by omega)⟩

/-- The signs among numbers. -/
def sg (l : List Int) : List Int := l.filter signOkB
theorem sg_snoc_yes {l : List Int} {j : Nat} {z : Int} (hj : j < l.length) (hz : l.getD j 0 = z) (h : isSign z) : (sg (l.take (j + 1))).length = (sg (l.take j)).length + 1 ∧ (sg (l.take j)).length < (sg l).length ∧ (sg l).getD (sg (l.take j)).length 0 = z := by
  have e : l[j] = z := by rw [← hz]; simp [List.getD, List.getElem?_eq_getElem hj]
  have e1 : sg (l.take (j + 1)) = sg (l.take j) ++ [z] := by
    rw [List.take_succ_eq_append_getElem hj, e]
    simp [sg, sign_t h]
  have e2 : sg l = sg (l.take j) ++ z :: sg (l.drop (j + 1)) := by
    have h1 : l = l.take j ++ (z :: l.drop (j + 1)) := by
      rw [← e, List.getElem_cons_drop, List.take_append_drop]
    have h2 : sg l = sg (l.take j ++ (z :: l.drop (j + 1))) := by rw [← h1]
    rw [h2]; simp [sg, sign_t h]
  refine ⟨by rw [e1]; simp, by rw [e2]; simp, ?_⟩
  rw [e2]
  simp [List.getD]
theorem sg_snoc_no {l : List Int} {j : Nat} {z : Int} (hj : j < l.length) (hz : l.getD j 0 = z) (h : ¬ isSign z) : (sg (l.take (j + 1))).length = (sg (l.take j)).length := by
  have e : l[j] = z := by rw [← hz]; simp [List.getD, List.getElem?_eq_getElem hj]
  rw [List.take_succ_eq_append_getElem hj, e]
  simp [sg, sign_f h]
theorem sg_len (l : List Int) : (sg l).length ≤ l.length := List.length_filter_le _ _

end Go.Proofs.Ytnfjmpljfplahaa
