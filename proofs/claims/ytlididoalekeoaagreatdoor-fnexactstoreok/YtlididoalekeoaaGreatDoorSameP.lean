/- Plain facts on two of them that are alike; bytes of a cell as a text. -/
import Derived.Test.YtlididoalekeoaaGreatDoorTabP
import Derived.Test.YtlididoalekeoaaGreatDoorStrB
import Derived.Test.YtlididoalekeoaaGreatDoorDpRow
import Derived.Test.YtlididoalekeoaaGreatDoorDeepS
namespace Go.Proofs.YtlididoalekeoaaGreatDoor
set_option maxRecDepth 4000
open Go.RowKit

def sCell (t1 : Int) (b1 : List UInt8) (t2 : Int) (b2 : List UInt8) : Bool := (t1 == t2) && ((strB b1).toList == (strB b2).toList)
def sRow (a b : RowD) : Bool := (a.key.toList == b.key.toList) && sCell a.t1 a.b1 b.t1 b.b1 && sCell a.t2 a.b2 b.t2 b.b2 && (a.has == b.has) && (a.aside == b.aside)
def sMark (a b : MarkD) : Bool := (a.who == b.who) && (a.seq == b.seq) && (a.code == b.code)
def allB {α : Type} (f : α → α → Bool) : List α → List α → Bool
  | a :: l, b :: m => f a b && allB f l m
  | _, _ => true
theorem allB_end {α : Type} {f : α → α → Bool} {l m : List α} {k : Nat} (h : l.length ≤ k) : allB f (l.drop k) (m.drop k) = true := by
  rw [List.drop_of_length_le h]; unfold allB; rfl
theorem allB_at {α : Type} {f : α → α → Bool} {l m : List α} {k : Nat} {a b : α} (ha : l[k]? = some a) (hb : m[k]? = some b) : allB f (l.drop k) (m.drop k) = (f a b && allB f (l.drop (k + 1)) (m.drop (k + 1))) := by
  obtain ⟨hk, rfl⟩ := List.getElem?_eq_some_iff.1 ha
  obtain ⟨hk', rfl⟩ := List.getElem?_eq_some_iff.1 hb
  rw [List.drop_eq_getElem_cons hk, List.drop_eq_getElem_cons hk', allB]
def sameTab (a b : TabD) : Bool := ((a.rows.length == b.rows.length) && allB sRow a.rows b.rows) && (a.phase == b.phase) && ((a.marks.length == b.marks.length) && allB sMark a.marks b.marks)

theorem Lies.conv0 {w : World} {q n : Nat} {es : List UInt8} (h : Lies w q n es) (c : Nat) :
    (convert 60 9 (.slice (some ⟨q, 0, none⟩) n c)).run Tryz.prog w = .ok (.string (strB es)) w := by
  have := run_convert_bytes_back (P := Tryz.prog) w 60 9 5 ⟨q, 0, none⟩ c es Tryz.underlying60 Tryz.underlying5 Tryz.underlying9 (fun j hj => by
    rw [Addr.add_lit, h.cell j (by rw [← h.size]; exact hj)]
    simp [List.getD, List.getElem?_eq_getElem hj])
  rw [h.size] at this; exact this
theorem CellAt.convA {w : World} {ao : Option Addr} {n c : Nat} {bs : List UInt8} (h : CellAt w ao n c bs) : (convert 60 9 (.slice ao n c)).run Tryz.prog w = .ok (.string (strB bs)) w := by
  rcases h with ⟨rfl, rfl, rfl, rfl⟩ | ⟨q, rfl, _, h3⟩
  · exact run_convert_bytes_nil w 60 5 Tryz.underlying60 Tryz.underlying5 0 0 9 Tryz.underlying9
  · exact h3.conv0 c
theorem rdS_parts {α : Type} {n : Nat} {R : Rd α} {w : World} {ao : Option Addr} {len cap : Nat} {ls : List α} (h : RdS n R w [.slice ao len cap] ls) : len ≤ maxLen ∧ ls.length = len ∧ (ls = [] ∨ ∃ b off, ao = some ⟨b, off, none⟩ ∧ ∀ j a, ls[j]? = some a → ∃ c, c.length = n ∧ R w c a ∧ ∀ i v, c[i]? = some v → w.cell? ⟨b, off + j * n + i, none⟩ = some v) := by
  obtain ⟨_, _, _, e, hm, hl, h⟩ := h
  simp only [List.cons.injEq, Value.slice.injEq, and_true] at e
  obtain ⟨rfl, rfl, rfl⟩ := e
  exact ⟨hm, hl, h⟩
theorem rdS_get {α : Type} {n : Nat} {R : Rd α} {w : World} {ao : Option Addr} {len cap : Nat} {ls : List α} (h : RdS n R w [.slice ao len cap] ls) {j : Nat} {a : α} (ha : ls[j]? = some a) :
    ∃ b off c, ao = some ⟨b, off, none⟩ ∧ c.length = n ∧ R w c a ∧ ∀ i v, c[i]? = some v → w.cell? ⟨b, off + j * n + i, none⟩ = some v := by
  obtain ⟨_, _, h⟩ := rdS_parts h
  rcases h with rfl | ⟨b, off, e, g⟩
  · simp at ha
  · obtain ⟨c, h1, h2, h3⟩ := g j a ha
    exact ⟨b, off, c, e, h1, h2, h3⟩
theorem rdS_len {α : Type} {n : Nat} {R : Rd α} {w : World} {ao : Option Addr} {len cap : Nat} {ls : List α} (h : RdS n R w [.slice ao len cap] ls) : ls.length = len ∧ len ≤ maxLen := ⟨(rdS_parts h).2.1, (rdS_parts h).1⟩
theorem rcRow_cells {w : World} {k : ByteArray} {t1 t2 has : Int} {b1 b2 : List UInt8} {asd : Bool} {cs : List Value} (h : RcRow w cs ⟨k, t1, b1, t2, b2, has, asd⟩) :
    ∃ x2 m2 d2 x4 m4 d4, cs = [.string k, .int .i64 t1, .slice x2 m2 d2, .int .i64 t2, .slice x4 m4 d4, .int .i64 has, .bool asd] ∧ CellAt w x2 m2 d2 b1 ∧ CellAt w x4 m4 d4 b2 := by
  obtain ⟨x2, m2, d2, x4, m4, d4, rfl, _, r1, r3⟩ := h
  obtain ⟨_, _, _, e1, c1⟩ := r1
  obtain ⟨_, _, _, e3, c3⟩ := r3
  simp only [List.cons.injEq, Value.slice.injEq, and_true] at e1 e3
  obtain ⟨_, rfl, rfl, rfl⟩ := e1
  obtain ⟨_, rfl, rfl, rfl⟩ := e3
  exact ⟨_, _, _, _, _, _, rfl, (rdC_parts c1).2, (rdC_parts c3).2⟩

end Go.Proofs.YtlididoalekeoaaGreatDoor
