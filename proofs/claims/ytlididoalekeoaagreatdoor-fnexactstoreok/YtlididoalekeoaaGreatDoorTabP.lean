/- Plain facts on what a node knows: whose mark, whose row. -/
import Derived.Test.YtlididoalekeoaaGreatDoorTabDat
namespace Go.Proofs.YtlididoalekeoaaGreatDoor
set_option maxRecDepth 4000
open Go.RowKit

def zeroMark : MarkD := ⟨0, 0, 0⟩
/-- The first mark of somebody, and whether there is one. -/
def markAt : List MarkD → Int → MarkD × Bool
  | [], _ => (zeroMark, false)
  | m :: r, who => if m.who = who then (m, true) else markAt r who
theorem markAt_nil {ls : List MarkD} {k : Nat} (who : Int) (h : ls.length ≤ k) : markAt (ls.drop k) who = (zeroMark, false) := by
  rw [List.drop_of_length_le h]; rfl
theorem markAt_yes {ls : List MarkD} {k : Nat} {m : MarkD} {who : Int} (h : ls[k]? = some m) (e : m.who = who) : markAt (ls.drop k) who = (m, true) := by
  obtain ⟨hk, hm⟩ := List.getElem?_eq_some_iff.1 h
  rw [List.drop_eq_getElem_cons hk, hm]
  exact if_pos e
theorem markAt_no {ls : List MarkD} {k : Nat} {m : MarkD} {who : Int} (h : ls[k]? = some m) (e : ¬ m.who = who) : markAt (ls.drop k) who = markAt (ls.drop (k + 1)) who := by
  obtain ⟨hk, hm⟩ := List.getElem?_eq_some_iff.1 h
  rw [List.drop_eq_getElem_cons hk, hm]
  exact if_neg e
/-- The place of the row of a key; -1 where there is none. -/
def rowAtF : List RowD → ByteArray → Int → Int
  | [], _, _ => -1
  | r :: s, key, i => if (r.key.toList == key.toList) = true then i else rowAtF s key (i + 1)
def rowAt (ls : List RowD) (key : ByteArray) : Int := rowAtF ls key 0
theorem rowAtF_nil {ls : List RowD} {k : Nat} (key : ByteArray) (i : Int) (h : ls.length ≤ k) : rowAtF (ls.drop k) key i = -1 := by
  rw [List.drop_of_length_le h]; rfl
theorem rowAtF_yes {ls : List RowD} {k : Nat} {r : RowD} {key : ByteArray} (i : Int) (h : ls[k]? = some r) (e : (r.key.toList == key.toList) = true) : rowAtF (ls.drop k) key i = i := by
  obtain ⟨hk, hm⟩ := List.getElem?_eq_some_iff.1 h
  rw [List.drop_eq_getElem_cons hk, hm]
  exact if_pos e
theorem rowAtF_no {ls : List RowD} {k : Nat} {r : RowD} {key : ByteArray} (i : Int) (h : ls[k]? = some r) (e : (r.key.toList == key.toList) = false) : rowAtF (ls.drop k) key i = rowAtF (ls.drop (k + 1)) key (i + 1) := by
  obtain ⟨hk, hm⟩ := List.getElem?_eq_some_iff.1 h
  rw [List.drop_eq_getElem_cons hk, hm]
  exact if_neg (by rw [e]; simp)

end Go.Proofs.YtlididoalekeoaaGreatDoor
