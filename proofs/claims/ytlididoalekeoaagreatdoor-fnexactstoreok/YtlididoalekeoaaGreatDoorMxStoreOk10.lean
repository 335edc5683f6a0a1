/- Parts of the proof, one behind the other. -/
import Derived.Test.YtlididoalekeoaaGreatDoorMxStoreOk2
import Derived.Test.YtlididoalekeoaaGreatDoorMxStoreOk4
import Derived.Deep.RegionHeldLaw
import Derived.Test.YtlididoalekeoaaGreatDoorMxStoreOk9
/- Parts of the proof, one behind the other. -/
/- Bytes that lie there, to be read. -/
namespace Go.Proofs.YtlididoalekeoaaGreatDoor
set_option maxRecDepth 4000
open Go.RowKit

/-- Bytes that lie there, to be read. -/
structure Lies (w : World) (q n : Nat) (es : List UInt8) : Prop where
  size : es.length = n
  lt : q < w.heap.size
  cell : ∀ j, j < n → w.cell? ⟨q, 0 + j, none⟩ = some (.int .u8 ((es.getD j 0).toNat : Int))
theorem Lies.below {w w' : World} {q n : Nat} {es : List UInt8} (h : Lies w q n es) (hb : Below w.heap.size w w') : Lies w' q n es :=
  ⟨h.size, by have := hb.size; have := h.lt; omega, fun j hj => (hb.cell (p := ⟨q, 0 + j, none⟩) h.lt).trans (h.cell j hj)⟩
theorem Lies.take {w : World} {q n : Nat} {es : List UInt8} (h : Lies w q n es) (k : Nat) (hk : k ≤ n) : Lies w q k (es.take k) :=
  ⟨by rw [List.length_take, h.size]; omega, h.lt, fun j hj => by rw [h.cell j (by omega)]; simp [List.getD, hj]⟩
theorem Own.lies {w : World} {g c n : Nat} {bs : List UInt8} (h : Own w g c bs) (hn : bs.length = n) : Lies w g n bs := ⟨hn, h.lt, h.cell hn⟩

end Go.Proofs.YtlididoalekeoaaGreatDoor
/- Bytes that lie there: what they say as a text. -/
namespace Go.Proofs.YtlididoalekeoaaGreatDoor
set_option maxRecDepth 4000
open Go.RowKit

theorem Lies.conv {w : World} {q n : Nat} {es : List UInt8} (h : Lies w q n es) (k m sz c : Nat) (hm : m = sz) (hk : k + sz ≤ n) :
    (convert 60 9 (.slice (some ⟨q, k, none⟩) m c)).run Tryz.prog w = .ok (.string ⟨((es.drop k).take sz).toArray⟩) w := by
  subst hm
  have := conv_from (c := c) (from_of (k := k) h.size h.cell) hk
  rw [Nat.zero_add] at this; exact this
theorem Lies.whole {w : World} {q n : Nat} {es : List UInt8} (h : Lies w q n es) (c : Nat) :
    (convert 60 9 (.slice (some ⟨q, 0, none⟩) n c)).run Tryz.prog w = .ok (.string ⟨es.toArray⟩) w := by
  have := h.conv 0 n n c rfl (by omega)
  rw [List.drop_zero, List.take_of_length_le (by rw [h.size]; exact Nat.le_refl _)] at this; exact this

end Go.Proofs.YtlididoalekeoaaGreatDoor
/- Bytes of a cell: nil without room, or at the head of a block. -/
namespace Go.Proofs.YtlididoalekeoaaGreatDoor
set_option maxRecDepth 4000
open Go.RowKit

/-- The bytes of a cell that is handed in: nil, or they lie there. -/
def CellAt (w : World) (ao : Option Addr) (n c : Nat) (bs : List UInt8) : Prop :=
  (ao = none ∧ n = 0 ∧ c = 0 ∧ bs = []) ∨ ∃ q, ao = some ⟨q, 0, none⟩ ∧ n ≤ c ∧ Lies w q n bs
theorem CellAt.below {w w' : World} {ao : Option Addr} {n c : Nat} {bs : List UInt8} (h : CellAt w ao n c bs) (hb : Below w.heap.size w w') : CellAt w' ao n c bs := by
  rcases h with h | ⟨q, h1, h2, h3⟩
  · exact .inl h
  · exact .inr ⟨q, h1, h2, h3.below hb⟩
theorem CellAt.size {w : World} {ao : Option Addr} {n c : Nat} {bs : List UInt8} (h : CellAt w ao n c bs) : bs.length = n := by
  rcases h with ⟨_, rfl, _, rfl⟩ | ⟨q, _, _, h3⟩
  · rfl
  · exact h3.size
theorem CellAt.reads {w : World} {ao : Option Addr} {n c : Nat} {bs : List UInt8} (h : CellAt w ao n c bs) : Reads w ao n bs := by
  rcases h with ⟨rfl, rfl, _, rfl⟩ | ⟨q, rfl, _, h3⟩
  · exact ⟨rfl, .inl rfl⟩
  · exact ⟨h3.size, .inr ⟨q, 0, rfl, h3.cell⟩⟩
theorem OwnO.at_ {w : World} {B c n : Nat} {ao : Option Addr} {bs : List UInt8} (h : OwnO w B ao c bs) (hn : bs.length = n) : CellAt w ao n c bs := by
  rcases h with ⟨rfl, rfl, rfl⟩ | ⟨q, rfl, _, hO⟩
  · exact .inl ⟨rfl, by simpa using hn.symm, rfl, rfl⟩
  · exact .inr ⟨q, rfl, by have := hO.le; omega, hO.lies hn⟩

end Go.Proofs.YtlididoalekeoaaGreatDoor
/- The contract of l8Copy. -/
namespace Go.Proofs.YtlididoalekeoaaGreatDoor
set_option maxRecDepth 4000
open Go.RowKit

end Go.Proofs.YtlididoalekeoaaGreatDoor
/- Blocks of seven cells. -/
namespace Go.Proofs.YtlididoalekeoaaGreatDoor
set_option maxRecDepth 4000
open Go.RowKit

/-- A block of seven cells that may be written: its cells. -/
theorem cells7 (w : World) (g : Nat) (a0 a1 a2 a3 a4 a5 a6 : Value) (T : TypeId) (hg : w.heap[g]? = some (.cells #[a0, a1, a2, a3, a4, a5, a6] T (0, 0))) :
    w.cell? ⟨g, 0, none⟩ = some a0 ∧ w.cell? ⟨g, 1, none⟩ = some a1 ∧ w.cell? ⟨g, 2, none⟩ = some a2 ∧ w.cell? ⟨g, 3, none⟩ = some a3 ∧ w.cell? ⟨g, 4, none⟩ = some a4 ∧ w.cell? ⟨g, 5, none⟩ = some a5 ∧ w.cell? ⟨g, 6, none⟩ = some a6 := by
  refine ⟨?_, ?_, ?_, ?_, ?_, ?_, ?_⟩
  · rw [cell_of_row w g 0 _ _ (0, 0) hg]; rfl
  · rw [cell_of_row w g 1 _ _ (0, 0) hg]; rfl
  · rw [cell_of_row w g 2 _ _ (0, 0) hg]; rfl
  · rw [cell_of_row w g 3 _ _ (0, 0) hg]; rfl
  · rw [cell_of_row w g 4 _ _ (0, 0) hg]; rfl
  · rw [cell_of_row w g 5 _ _ (0, 0) hg]; rfl
  · rw [cell_of_row w g 6 _ _ (0, 0) hg]; rfl
theorem free7 (w : World) (g : Nat) (a0 a1 a2 a3 a4 a5 a6 : Value) (T : TypeId) (hg : w.heap[g]? = some (.cells #[a0, a1, a2, a3, a4, a5, a6] T (0, 0))) :
    w.frozen? ⟨g, 0, none⟩ = false ∧ w.frozen? ⟨g, 1, none⟩ = false ∧ w.frozen? ⟨g, 2, none⟩ = false ∧ w.frozen? ⟨g, 3, none⟩ = false ∧ w.frozen? ⟨g, 4, none⟩ = false ∧ w.frozen? ⟨g, 5, none⟩ = false ∧ w.frozen? ⟨g, 6, none⟩ = false :=
  ⟨frozen_of_row w g 0 _ _ hg, frozen_of_row w g 1 _ _ hg, frozen_of_row w g 2 _ _ hg, frozen_of_row w g 3 _ _ hg, frozen_of_row w g 4 _ _ hg, frozen_of_row w g 5 _ _ hg, frozen_of_row w g 6 _ _ hg⟩
/-- One cell of a block, written. -/
theorem set_at {w : World} {g j : Nat} {cs : Array Value} {T : TypeId} (v : Value) (hg : w.heap[g]? = some (.cells cs T (0, 0))) : (w.setCell ⟨g, j, none⟩ v).heap[g]? = some (.cells (cs.setIfInBounds j v) T (0, 0)) := heap_setCell_same w g j _ _ _ hg
/-- A block of seven cells, all of them written. -/
theorem set7 {w : World} {g : Nat} {a0 a1 a2 a3 a4 a5 a6 : Value} {T : TypeId} (x0 x1 x2 x3 x4 x5 x6 : Value) (hg : w.heap[g]? = some (.cells #[a0, a1, a2, a3, a4, a5, a6] T (0, 0))) :
    (((((((w.setCell ⟨g, 0, none⟩ x0).setCell ⟨g, 1, none⟩ x1).setCell ⟨g, 2, none⟩ x2).setCell ⟨g, 3, none⟩ x3).setCell ⟨g, 4, none⟩ x4).setCell ⟨g, 5, none⟩ x5).setCell ⟨g, 6, none⟩ x6).heap[g]? = some (.cells #[x0, x1, x2, x3, x4, x5, x6] T (0, 0)) := by
  rw [set_at x6 (set_at x5 (set_at x4 (set_at x3 (set_at x2 (set_at x1 (set_at x0 hg))))))]
  simp
/-- A cell of another block, seven writes on. -/
theorem cell_set7 {w : World} {q : Nat} {x0 x1 x2 x3 x4 x5 x6 v : Value} {a : Addr} (h : w.cell? a = some v) (hne : a.block ≠ q) :
    (((((((w.setCell ⟨q, 0, none⟩ x0).setCell ⟨q, 1, none⟩ x1).setCell ⟨q, 2, none⟩ x2).setCell ⟨q, 3, none⟩ x3).setCell ⟨q, 4, none⟩ x4).setCell ⟨q, 5, none⟩ x5).setCell ⟨q, 6, none⟩ x6).cell? a = some v :=
  cell_set (cell_set (cell_set (cell_set (cell_set (cell_set (cell_set h hne) hne) hne) hne) hne) hne) hne
theorem bset7 {B : Nat} {a w : World} {q : Nat} {x0 x1 x2 x3 x4 x5 x6 : Value} (h : Below B a w) (hq : B ≤ q) :
    Below B a (((((((w.setCell ⟨q, 0, none⟩ x0).setCell ⟨q, 1, none⟩ x1).setCell ⟨q, 2, none⟩ x2).setCell ⟨q, 3, none⟩ x3).setCell ⟨q, 4, none⟩ x4).setCell ⟨q, 5, none⟩ x5).setCell ⟨q, 6, none⟩ x6) :=
  bset (bset (bset (bset (bset (bset (bset h _ hq) _ hq) _ hq) _ hq) _ hq) _ hq) _ hq
theorem block_set7 {w : World} {g q : Nat} {x0 x1 x2 x3 x4 x5 x6 : Value} {o : Option Obj} (h : w.heap[g]? = o) (hne : g ≠ q) :
    (((((((w.setCell ⟨q, 0, none⟩ x0).setCell ⟨q, 1, none⟩ x1).setCell ⟨q, 2, none⟩ x2).setCell ⟨q, 3, none⟩ x3).setCell ⟨q, 4, none⟩ x4).setCell ⟨q, 5, none⟩ x5).setCell ⟨q, 6, none⟩ x6).heap[g]? = o :=
  block_set (block_set (block_set (block_set (block_set (block_set (block_set h hne) hne) hne) hne) hne) hne) hne
theorem size_set7 {w : World} {q : Nat} {x0 x1 x2 x3 x4 x5 x6 : Value} :
    (((((((w.setCell ⟨q, 0, none⟩ x0).setCell ⟨q, 1, none⟩ x1).setCell ⟨q, 2, none⟩ x2).setCell ⟨q, 3, none⟩ x3).setCell ⟨q, 4, none⟩ x4).setCell ⟨q, 5, none⟩ x5).setCell ⟨q, 6, none⟩ x6).heap.size = w.heap.size := by simp

end Go.Proofs.YtlididoalekeoaaGreatDoor
/- Two slices of bytes that are new, and apart. -/
namespace Go.Proofs.YtlididoalekeoaaGreatDoor
set_option maxRecDepth 4000
open Go.RowKit

theorem OwnO.of_set {w : World} {B q j c : Nat} {v : Value} {ao : Option Addr} {bs : List UInt8} (h : OwnO w B ao c bs) (hq : q < B) : OwnO (w.setCell ⟨q, j, none⟩ v) B ao c bs := by
  rcases h with h | ⟨g, rfl, h1, hO⟩
  · exact .inl h
  · exact .inr ⟨g, rfl, h1, hO.of_block (block_set rfl (by omega))⟩
/-- Two slices of bytes, each in new memory, or nil; not the same. -/
structure Apart (w : World) (B : Nat) (a1 : Option Addr) (c1 : Nat) (b1 : List UInt8) (a2 : Option Addr) (c2 : Nat) (b2 : List UInt8) : Prop where
  one : OwnO w B a1 c1 b1
  two : OwnO w B a2 c2 b2
  ne : ∀ q, a1 = some ⟨q, 0, none⟩ → a2 ≠ some ⟨q, 0, none⟩
theorem Apart.below {w w' : World} {B : Nat} {a1 : Option Addr} {c1 : Nat} {b1 : List UInt8} {a2 : Option Addr} {c2 : Nat} {b2 : List UInt8} (h : Apart w B a1 c1 b1 a2 c2 b2) (hB : Below w.heap.size w w') : Apart w' B a1 c1 b1 a2 c2 b2 := ⟨h.one.below hB, h.two.below hB, h.ne⟩
theorem Apart.mono {w : World} {B B' : Nat} {a1 : Option Addr} {c1 : Nat} {b1 : List UInt8} {a2 : Option Addr} {c2 : Nat} {b2 : List UInt8} (h : Apart w B a1 c1 b1 a2 c2 b2) (hb : B' ≤ B) : Apart w B' a1 c1 b1 a2 c2 b2 := ⟨h.one.mono hb, h.two.mono hb, h.ne⟩
theorem Apart.of_set {w : World} {B q j : Nat} {v : Value} {a1 : Option Addr} {c1 : Nat} {b1 : List UInt8} {a2 : Option Addr} {c2 : Nat} {b2 : List UInt8} (h : Apart w B a1 c1 b1 a2 c2 b2) (hq : q < B) : Apart (w.setCell ⟨q, j, none⟩ v) B a1 c1 b1 a2 c2 b2 := ⟨h.one.of_set hq, h.two.of_set hq, h.ne⟩
theorem Apart.of_set7 {w : World} {B q : Nat} {x0 x1 x2 x3 x4 x5 x6 : Value} {a1 : Option Addr} {c1 : Nat} {b1 : List UInt8} {a2 : Option Addr} {c2 : Nat} {b2 : List UInt8} (h : Apart w B a1 c1 b1 a2 c2 b2) (hq : q < B) :
    Apart (((((((w.setCell ⟨q, 0, none⟩ x0).setCell ⟨q, 1, none⟩ x1).setCell ⟨q, 2, none⟩ x2).setCell ⟨q, 3, none⟩ x3).setCell ⟨q, 4, none⟩ x4).setCell ⟨q, 5, none⟩ x5).setCell ⟨q, 6, none⟩ x6) B a1 c1 b1 a2 c2 b2 :=
  ((((((h.of_set hq).of_set hq).of_set hq).of_set hq).of_set hq).of_set hq).of_set hq

end Go.Proofs.YtlididoalekeoaaGreatDoor
/- Plain facts on cells: what a cell says, the cell of a text, a cell turned to another set. Contracts of what the laws do with a cell: its size, a copy of it, whether two are alike, and the marks of its memory. Contracts of Decode at bytes that are nil, and at bytes that may be nil. Contracts of CellOk, CellText, CellOf, Turn and SameText, in the specification. Contracts of Turn and SameText, in the specification. -/
namespace Go.Proofs.YtlididoalekeoaaGreatDoor
set_option maxRecDepth 4000
open Go.RowKit

/-- Whether it is a cell: its tag and how many bytes it has. -/
def cOk (tag : Int) (n : Nat) : Bool := inB tag 0 5 && decide ((n : Int) ≤ 20)
/-- What a cell says, and whether it says something. -/
def tOk (tag : Int) (bs : List UInt8) : Bool := cOk tag bs.length && decOk tag bs
def tS (tag : Int) (bs : List UInt8) : List UInt8 := if tOk tag bs = true then decS tag bs else []
/-- The cell of a text. -/
def oOk (tag : Int) (t : List UInt8) : Bool := encOk tag t && decide (((encS tag t).length : Int) ≤ 20)
def oTag (tag : Int) (t : List UInt8) : Int := if oOk tag t = true then tag else 0
def oB (tag : Int) (t : List UInt8) : List UInt8 := if oOk tag t = true then encS tag t else []
/-- A cell turned. -/
def nOk (tag : Int) (bs : List UInt8) (to : Int) : Bool := tOk tag bs && oOk to (tS tag bs)
def nTag (tag : Int) (bs : List UInt8) (to : Int) : Int := if nOk tag bs to = true then to else tag
def nB (tag : Int) (bs : List UInt8) (to : Int) : List UInt8 := if nOk tag bs to = true then encS to (tS tag bs) else bs
/-- Whether two say the same. -/
def mOk (t1 : Int) (b1 : List UInt8) (t2 : Int) (b2 : List UInt8) : Bool := tOk t1 b1 && tOk t2 b2 && (tS t1 b1 == tS t2 b2)

theorem tS_yes {tag : Int} {bs : List UInt8} (h : cOk tag bs.length = true) : tOk tag bs = decOk tag bs ∧ tS tag bs = decS tag bs := by
  have e : tOk tag bs = decOk tag bs := by unfold tOk; rw [h]; rfl
  refine ⟨e, ?_⟩
  unfold tS
  rw [e]
  cases hd : decOk tag bs
  · unfold decS; rw [hd]; rfl
  · rfl
theorem tS_no {tag : Int} {bs : List UInt8} (h : cOk tag bs.length = false) : tOk tag bs = false ∧ tS tag bs = [] := by
  have e : tOk tag bs = false := by unfold tOk; rw [h]; rfl
  exact ⟨e, by unfold tS; rw [e]; rfl⟩
theorem tS_f {tag : Int} {bs : List UInt8} (h : tOk tag bs = false) : tS tag bs = [] := by unfold tS; rw [h]; rfl
theorem tS_len (tag : Int) (bs : List UInt8) : (tS tag bs).length ≤ 80 := by
  unfold tS
  split
  · rename_i h
    have h1 : cOk tag bs.length = true := by unfold tOk at h; exact (Bool.and_eq_true _ _ ▸ h).1
    have h2 : ((bs.length : Nat) : Int) ≤ 20 := by unfold cOk at h1; exact of_decide_eq_true (Bool.and_eq_true _ _ ▸ h1).2
    have := decS_len tag bs
    omega
  · simp
theorem oOk_t {tag : Int} {t : List UInt8} (h : oOk tag t = true) : encOk tag t = true ∧ (encS tag t).length ≤ 20 ∧ oTag tag t = tag ∧ oB tag t = encS tag t := by
  have h' := h
  simp only [oOk, Bool.and_eq_true, decide_eq_true_eq] at h'
  exact ⟨h'.1, by omega, if_pos h, if_pos h⟩
theorem oOk_f {tag : Int} {t : List UInt8} (h : oOk tag t = false) : oTag tag t = 0 ∧ oB tag t = [] := by
  unfold oTag oB
  rw [h]
  exact ⟨rfl, rfl⟩
theorem oB_len (tag : Int) (t : List UInt8) : (oB tag t).length ≤ 20 := by
  unfold oB
  split
  · rename_i h; exact (oOk_t h).2.1
  · simp
theorem nOk_t {tag to : Int} {bs : List UInt8} (h : nOk tag bs to = true) : tOk tag bs = true ∧ oOk to (tS tag bs) = true ∧ nTag tag bs to = to ∧ nB tag bs to = encS to (tS tag bs) := by
  have h' := h
  simp only [nOk, Bool.and_eq_true] at h'
  exact ⟨h'.1, h'.2, if_pos h, if_pos h⟩
theorem nOk_f {tag to : Int} {bs : List UInt8} (h : nOk tag bs to = false) : nTag tag bs to = tag ∧ nB tag bs to = bs := by
  unfold nTag nB
  rw [h]
  exact ⟨rfl, rfl⟩
theorem cOk_in {tag : Int} {n : Nat} (h : cOk tag n = true) : inB tag 0 5 = true ∧ n ≤ 20 := by
  simp only [cOk, Bool.and_eq_true, decide_eq_true_eq] at h
  exact ⟨h.1, by omega⟩
theorem nB_len (tag to : Int) (bs : List UInt8) : (nB tag bs to).length ≤ max bs.length 20 := by
  unfold nB
  split
  · rename_i h
    have := (oOk_t (nOk_t h).2.1).2.1
    omega
  · omega

/-- A text comes back of its cell. -/
theorem cell_back {tag : Int} {t : List UInt8} (h : oOk tag t = true) : cOk tag (encS tag t).length = true ∧ tOk tag (encS tag t) = true ∧ tS tag (encS tag t) = t := by
  obtain ⟨h1, h2, _, _⟩ := oOk_t h
  obtain ⟨d1, d2⟩ := enc_dec h1
  have hin : inB tag 0 5 = true := by
    have := h1
    simp only [encOk, encIn, Bool.and_eq_true] at this
    exact this.1.1
  have hc : cOk tag (encS tag t).length = true := by
    simp only [cOk, Bool.and_eq_true, decide_eq_true_eq]; exact ⟨hin, by omega⟩
  obtain ⟨e1, e2⟩ := tS_yes hc
  exact ⟨hc, by rw [e1]; exact d1, by rw [e2]; exact d2⟩
/-- Turned to other signs, and back, a cell is as it was. -/
theorem turn_back {tag to : Int} {bs : List UInt8} (h : nOk tag bs to = true) : tOk to (nB tag bs to) = true ∧ tS to (nB tag bs to) = tS tag bs ∧ nOk to (nB tag bs to) tag = true ∧ nB to (nB tag bs to) tag = bs := by
  obtain ⟨h1, h2, _, h4⟩ := nOk_t h
  obtain ⟨_, b1, b2⟩ := cell_back h2
  rw [← h4] at b1 b2
  have hc : cOk tag bs.length = true := by unfold tOk at h1; exact (Bool.and_eq_true _ _ ▸ h1).1
  have hd : decOk tag bs = true := by unfold tOk at h1; exact (Bool.and_eq_true _ _ ▸ h1).2
  obtain ⟨_, e2⟩ := tS_yes hc
  obtain ⟨r1, r2, _⟩ := dec_enc hd
  rw [← e2] at r1 r2
  have ho : oOk tag (tS tag bs) = true := by
    have := (cOk_in hc).2
    simp only [oOk, Bool.and_eq_true, decide_eq_true_eq]
    exact ⟨r1, by rw [r2]; omega⟩
  have hn : nOk to (nB tag bs to) tag = true := by
    simp only [nOk, Bool.and_eq_true]
    exact ⟨b1, by rw [b2]; exact ho⟩
  refine ⟨b1, b2, hn, ?_⟩
  rw [(nOk_t hn).2.2.2, b2, r2]
theorem same_turn {tag to : Int} {bs : List UInt8} (h : nOk tag bs to = true) : mOk to (nB tag bs to) tag bs = true := by
  obtain ⟨b1, b2, _, _⟩ := turn_back h
  simp only [mOk, Bool.and_eq_true, beq_iff_eq]
  exact ⟨⟨b1, (nOk_t h).1⟩, b2⟩
theorem mOk_comm (t1 : Int) (b1 : List UInt8) (t2 : Int) (b2 : List UInt8) : mOk t1 b1 t2 b2 = mOk t2 b2 t1 b1 := by
  unfold mOk
  rw [Bool.and_comm (tOk t1 b1), Bool.beq_comm]

/-- A cell, as a value. -/
def cellV (tag : Int) (ao : Option Addr) (n c : Nat) : Value := .agg #[.int .i64 tag, .slice ao n c]

/-- What is left of a size. -/
def leftOf (n : Int) (len : Nat) : Int := if n < (len : Int) then -1 else n - (len : Int)
set_option maxHeartbeats 400000 in
theorem szByteS_n (ao : Option Addr) (len cap : Nat) (n : Int) (w : World) (hl : Hd (len ≤ maxLen)) (hn : Hd (0 ≤ n ∧ n ≤ 1048576)) :
    Calls Tryz.prog 45 #[.slice ao len cap, .int .i64 n] w fun e w' => e = .returned (.int .i64 (leftOf n len)) ∧ w = w' := by
  have hw : wrap64 (n - (len : Int)) = n - (len : Int) := by have := hl.out; have := hn.out; unfold maxLen at *; exact wrap64_in (by omega) (by omega)
  clear hl hn
  by_cases h : n < (len : Int)
  · rw [leftOf, if_pos h]
    have h2 : n - (len : Int) < 0 := by omega
    go_enter Tryz.func45, Tryz.ntmps45
    go_wp2
    go_ret
    exact ⟨rfl, rfl⟩
  · rw [leftOf, if_neg h]
    have h2 : ¬ n - (len : Int) < 0 := by omega
    go_enter Tryz.func45, Tryz.ntmps45
    go_wp2
    go_ret
    exact ⟨rfl, rfl⟩

set_option maxHeartbeats 400000 in
theorem szCell_n (tag : Int) (ao : Option Addr) (len cap : Nat) (n : Int) (w : World) (hl : Hd (len ≤ maxLen)) (hn : Hd (0 ≤ n ∧ n ≤ 1048576)) :
    Calls Tryz.prog 70 #[.agg #[.int .i64 tag, .slice ao len cap], .int .i64 n] w fun e w' => e = .returned (.int .i64 (leftOf n len)) ∧ Below w.heap.size w w' := by
  by_cases h : n < (len : Int)
  · have E : Hd (leftOf n len = -1) := ⟨if_pos h⟩
    rw [E.out]
    go_enter Tryz.func70, Tryz.ntmps70
    go_wp2_with fail
    refine (szByteS_n ao len cap n _ hl hn).mono ?_
    rintro e w1 ⟨rfl, hw⟩
    subst hw
    rewrite [E.out]
    go_wp2_with fail
    go_ret
    exact ⟨rfl, below_lit w _⟩
  · have E : Hd (leftOf n len = n - (len : Int)) := ⟨if_neg h⟩
    have h2 : ¬ n - (len : Int) < 0 := by omega
    rw [E.out]
    go_enter Tryz.func70, Tryz.ntmps70
    go_wp2_with fail
    refine (szByteS_n ao len cap n _ hl hn).mono ?_
    rintro e w1 ⟨rfl, hw⟩
    subst hw
    rewrite [E.out]
    go_wp2_with fail
    go_ret
    exact ⟨rfl, below_lit w _⟩

set_option maxHeartbeats 400000 in
theorem toCell_any (tag : Int) (ao : Option Addr) (len cap : Nat) (bs : List UInt8) (w : World) (hr : Reads w ao len bs) (hl : len ≤ 1073741824) :
    Calls Tryz.prog 73 #[.agg #[.int .i64 tag, .slice ao len cap]] w fun e w' => ∃ g, e = .returned (.agg #[.int .i64 tag, .slice (some ⟨g, 0, none⟩) len len]) ∧ w.heap.size ≤ g ∧ Row w' g bs ∧ Below w.heap.size w w' := by
  have Hr : Hd (Reads w ao len bs) := ⟨hr⟩
  clear hr
  go_enter Tryz.func73, Tryz.ntmps73
  go_wp2_with fail
  generalize hA : Obj.cells #[Value.int IntKind.i64 tag, Value.slice ao len cap] 94 = A
  generalize hB : Obj.cells #[Value.int IntKind.i64 0, Value.slice none 0 0] 65 = B
  generalize hC : Obj.cells #[Value.int IntKind.i64 tag, Value.slice none 0 0] 65 = C
  have h3 : Below w.heap.size w (((w.alloc A).alloc B).alloc C) := below_lit3 w A B C
  refine (toByteS_any ao len cap bs _ (Hr.out.below rfl h3) hl).mono ?_
  rintro e w1 ⟨rfl, hR, hb⟩
  obtain ⟨l0, l1, l2⟩ := laid3 w A B C
  subst hA hB hC
  obtain ⟨a0, a1, _, _⟩ := cells2 w1 w.heap.size _ _ _ ((hb.block w.heap.size (by simp; omega)).trans l0)
  obtain ⟨b0, b1, b3, b4⟩ := cells2 w1 (w.heap.size + 1) _ _ _ ((hb.block (w.heap.size + 1) (by simp)).trans l1)
  obtain ⟨c0, c1, c3, c4⟩ := cells2 w1 (w.heap.size + 1 + 1) _ _ _ ((hb.block (w.heap.size + 1 + 1) (by simp)).trans l2)
  have HK : Hd (w1.heap[w.heap.size + 1]? = some (.cells #[.int .i64 0, .slice none 0 0] 65 (0, 0))) := ⟨(hb.block (w.heap.size + 1) (by simp)).trans l1⟩
  have HB : Hd (Below w.heap.size w w1) := ⟨Below.next h3 hb⟩
  simp only [World.size_alloc] at hR ⊢
  have HR : Hd (Row w1 (w.heap.size + 1 + 1 + 1) bs) := ⟨hR⟩
  clear hR hb h3 l0 l1 l2
  go_wp2_with fail
  refine bodyPost_ret (results_cell_row rfl _ _ (w.heap.size + 1) _ _ (0, 0) _ rfl (set2 _ _ (block_set HK.out (by omega))) Tryz.underlying65 rfl (by kernel_rfl)) rfl ?_
  refine ⟨_, rfl, by omega, ?_, ?_⟩
  · exact ((HR.out.set _ (by omega)).set _ (by omega)).set _ (by omega)
  · exact bset (bset (bset HB.out _ (by omega)) _ (by omega)) _ (by omega)

set_option maxHeartbeats 400000 in
theorem eqCell_true (tag : Int) (a1 a2 : Option Addr) (c1 c2 len : Nat) (bs : List UInt8) (w : World) (hl : len ≤ 1073741824) (h1 : Reads w a1 len bs) (h2 : Reads w a2 len bs) :
    Calls Tryz.prog 80 #[.agg #[.int .i64 tag, .slice a1 len c1], .agg #[.int .i64 tag, .slice a2 len c2]] w fun e w' => e = .returned (.bool true) ∧ Below w.heap.size w w' := by
  have H1 : Hd (Reads w a1 len bs) := ⟨h1⟩
  have H2 : Hd (Reads w a2 len bs) := ⟨h2⟩
  clear h1 h2
  have f1 : (tag != tag) = false := by simp
  go_enter Tryz.func80, Tryz.ntmps80
  go_wp2_with fail
  generalize hA : Obj.cells #[Value.int IntKind.i64 tag, Value.slice a1 len c1] 65 = A
  generalize hB : Obj.cells #[Value.int IntKind.i64 tag, Value.slice a2 len c2] 65 = B
  have h3 : Below w.heap.size w ((w.alloc A).alloc B) := below_lit2 w A B
  refine (eqByteS_true a1 a2 c1 c2 len bs _ hl (H1.out.below rfl h3) (H2.out.below rfl h3)).mono ?_
  rintro e w1 ⟨rfl, hb⟩
  have HB : Hd (Below w.heap.size w w1) := ⟨Below.next h3 hb⟩
  clear hb h3 hA hB
  go_wp2_with fail
  go_ret
  exact ⟨rfl, HB.out⟩

theorem dec_nil (cs : Int) : decOk cs [] = inB cs 0 5 ∧ decS cs [] = [] := by
  have e : decOk cs [] = inB cs 0 5 := by simp [decOk, itemsOf_nil, lostI]
  refine ⟨e, ?_⟩
  unfold decS
  split
  · rw [itemsOf_nil]; rfl
  · rfl

set_option maxHeartbeats 400000 in
theorem readAll_nil (cs : Int) (w : World) :
    Calls Tryz.prog 100 #[setV cs, .slice none 0 0] w (TextN w [] 0) := by
  obtain ⟨i0, hi, hz0, hz1, hz2⟩ := info_parts info8
  generalize setV cs = sv
  go_enter Tryz.func100, Tryz.ntmps100
  go_wp2_with (at_make; refine wpList_make_both _ rfl _ _ 60 rfl 5 i0 (.int .u8 0) Tryz.underlying60 hi hz0 hz1 _ _ _ _ 0 0 rfl rfl rfl ?C ?nm ?b2 ?b3 ?_)
  case C => rfl
  case nm => omega
  case b2 => rw [hz2]; omega
  case b3 => unfold maxLen; omega
  have HB : Hd (Below w.heap.size w (w.alloc (.cells (madeCells #[.int .u8 0] 0) 5))) := ⟨below_lit w _⟩
  have hcv : (convert 60 9 (.slice (some ⟨w.heap.size, 0, none⟩) 0 0)).run Tryz.prog (w.alloc (.cells (madeCells #[.int .u8 0] 0) 5)) = .ok (.string ⟨#[]⟩) (w.alloc (.cells (madeCells #[.int .u8 0] 0) 5)) :=
    conv_owned (B := w.heap.size) (n := 0) (bs := []) (Own.owns (bs := []) ⟨madeCells #[.int .u8 0] 0, heap_alloc_new w _, Nat.le_refl _, Nat.zero_le _, by simp [madeCells], by simp⟩ rfl (Nat.le_refl _))
  generalize w.alloc (.cells (madeCells #[.int .u8 0] 0) 5) = w1 at *
  go_wp2_with fail
  refine wp_loop_rounds 1 ?_
  rewrite [rounds_succ]
  go_wp2_with fail
  go_ret2
  exact ⟨rfl, HB.out⟩

set_option maxHeartbeats 400000 in
theorem implDecode_nil (cs : Int) (w : World) : Calls Tryz.prog 94 #[.int .i64 cs, .slice none 0 0] w (TextB w (decS cs []) (decOk cs [])) := by
  rw [(dec_nil cs).1, (dec_nil cs).2]
  cases hi : inB cs 0 5 with
  | false =>
    have hcs : ¬ (0 ≤ cs ∧ cs ≤ 5) := of_decide_eq_false hi
    clear hi
    go_enter Tryz.func94, Tryz.ntmps94
    go_wp2_with fail
    refine (setOf_no cs _ hcs).mono ?_
    rintro e w1 ⟨rfl, hw1⟩
    replace hw1 := hw1.symm
    subst hw1
    clear hcs
    go_wp2_with fail
    go_ret2
    exact ⟨rfl, Below.refl _ _⟩
  | true =>
    have hcs := in_cs hi
    clear hi
    go_enter Tryz.func94, Tryz.ntmps94
    go_wp2_with fail
    refine (setOf_yes cs _ hcs).mono ?_
    rintro e w1 ⟨rfl, hw1⟩
    replace hw1 := hw1.symm
    subst hw1
    generalize hsv : setV cs = sv
    have HSV : Hd (setV cs = sv) := ⟨hsv⟩
    clear hsv hcs
    go_wp2_with fail
    rewrite [← HSV.out]
    refine (readAll_nil cs _).mono ?_
    rintro e w2 ⟨rfl, hB⟩
    have HB : Hd (Below w.heap.size w w2) := ⟨hB⟩
    clear hB
    go_wp2_with fail
    go_ret2
    exact ⟨rfl, HB.out⟩

set_option maxHeartbeats 400000 in
theorem specDecode_nil (cs : Int) (w : World) : Calls Tryz.prog 71 #[.int .i64 cs, .slice none 0 0] w (TextB w (decS cs []) (decOk cs [])) := by
  rw [(dec_nil cs).1, (dec_nil cs).2]
  obtain ⟨ok, hok⟩ : ∃ ok, inB cs 0 5 = ok := ⟨_, rfl⟩
  have HK : Hd (inB cs 0 5 = ok) := ⟨hok⟩
  rw [hok]
  clear hok
  have hcv : (convert 60 9 (.slice (some ⟨w.heap.size, 0, none⟩) 0 0)).run Tryz.prog (w.alloc (.cells #[] 5)) = .ok (.string ⟨#[]⟩) (w.alloc (.cells #[] 5)) :=
    conv_owned (B := w.heap.size) (n := 0) (bs := []) ((own_emp w).owns rfl (Nat.le_refl _))
  go_enter Tryz.func71, Tryz.ntmps71
  go_wp2_with fail
  refine (l5Cs_any cs _).mono ?_
  rintro e w1 ⟨rfl, hw1⟩
  replace hw1 := hw1.symm
  subst hw1
  rewrite [HK.out]
  clear HK
  cases ok with
  | false =>
    go_wp2_with fail
    go_ret2
    exact ⟨rfl, below_lit _ _⟩
  | true =>
    go_wp2_with fail
    refine wp_loop_rounds 1 ?_
    rewrite [rounds_succ]
    go_wp2_with fail
    go_ret2
    exact ⟨rfl, below_lit _ _⟩

theorem implDecode_o (cs : Int) (ao : Option Addr) (n c : Nat) (bs : List UInt8) (w : World) (h : CellAt w ao n c bs) (hl : n ≤ 1048576) (T : Hd (AllAt w)) :
    Calls Tryz.prog 94 #[.int .i64 cs, .slice ao n c] w (TextB w (decS cs bs) (decOk cs bs)) := by
  rcases h with ⟨rfl, rfl, rfl, rfl⟩ | ⟨q, rfl, h2, h3⟩
  · exact implDecode_nil cs w
  · exact implDecode_any cs q 0 n c bs w h3.size h2 h3.cell hl T
theorem specDecode_o (cs : Int) (ao : Option Addr) (n c : Nat) (bs : List UInt8) (w : World) (h : CellAt w ao n c bs) (hl : n ≤ 1048576) :
    Calls Tryz.prog 71 #[.int .i64 cs, .slice ao n c] w (TextB w (decS cs bs) (decOk cs bs)) := by
  rcases h with ⟨rfl, rfl, rfl, rfl⟩ | ⟨q, rfl, h2, h3⟩
  · exact specDecode_nil cs w
  · exact specDecode_any cs q 0 n c bs w h3.size h2 h3.cell hl

/-- A cell that is answered, with a flag: its bytes are new memory, or nil; at least the result's own box was laid. -/
structure CellOut (w : World) (tag : Int) (bs : List UInt8) (ok : Bool) (e : Ending) (w' : World) : Prop where
  out : ∃ ao n c, e = .returned (.tuple #[.agg #[.int .i64 tag, .slice ao n c], .bool ok]) ∧ bs.length = n ∧ OwnO w' (w.heap.size + 1) ao c bs ∧ w.heap.size < w'.heap.size ∧ Below w.heap.size w w'

theorem box_at {w w1 : World} {v : Value} {tag : Int} (hb : Below (w.alloc (.cells #[.int .i64 tag, v] 65)).heap.size (w.alloc (.cells #[.int .i64 tag, v] 65)) w1) :
    w1.heap[w.heap.size]? = some (.cells #[.int .i64 tag, v] 65 (0, 0)) := (hb.block w.heap.size (by simp)).trans (heap_alloc_new w _)

set_option maxHeartbeats 400000 in
theorem specCellOk_any (tag : Int) (ao : Option Addr) (n c : Nat) (w : World) :
    Calls Tryz.prog 53 #[.agg #[.int .i64 tag, .slice ao n c]] w fun e w' => e = .returned (.bool (cOk tag n)) ∧ Below w.heap.size w w' := by
  obtain ⟨ok, hok⟩ : ∃ ok, inB tag 0 5 = ok := ⟨_, rfl⟩
  have HK : Hd (inB tag 0 5 = ok) := ⟨hok⟩
  unfold cOk
  rw [hok]
  clear hok
  go_enter Tryz.func53, Tryz.ntmps53
  go_wp2_with fail
  refine (l5Cs_any tag _).mono ?_
  rintro e w1 ⟨rfl, hw1⟩
  subst hw1
  rewrite [HK.out]
  clear HK
  cases ok with
  | false =>
    go_wp2_with fail
    go_ret
    exact ⟨rfl, below_lit _ _⟩
  | true =>
    go_wp2_with fail
    go_ret
    exact ⟨rfl, below_lit _ _⟩

set_option maxHeartbeats 400000 in
theorem specCellText_any (tag : Int) (ao : Option Addr) (n c : Nat) (bs : List UInt8) (w : World) (h : CellAt w ao n c bs) (hl : n ≤ 1048576) :
    Calls Tryz.prog 52 #[.agg #[.int .i64 tag, .slice ao n c]] w (TextB w (tS tag bs) (tOk tag bs)) := by
  have HC : Hd (CellAt w ao n c bs) := ⟨h⟩
  have Hn : Hd (bs.length = n) := ⟨h.size⟩
  clear h
  cases hk : cOk tag n with
  | false =>
    obtain ⟨e1, e2⟩ := tS_no (tag := tag) (bs := bs) (by rw [Hn.out]; exact hk)
    rw [e1, e2]
    have HK : Hd (cOk tag n = false) := ⟨hk⟩
    clear hk e1 e2
    go_enter Tryz.func52, Tryz.ntmps52
    go_wp2_with fail
    refine (specCellOk_any tag ao n c _).mono ?_
    rintro e w1 ⟨rfl, hB⟩
    rewrite [HK.out]
    have HB : Hd (Below w.heap.size w w1) := ⟨Below.next (below_lit w _) hB⟩
    clear hB
    go_wp2_with fail
    go_ret2
    exact ⟨rfl, HB.out⟩
  | true =>
    obtain ⟨e1, e2⟩ := tS_yes (tag := tag) (bs := bs) (by rw [Hn.out]; exact hk)
    rw [e1, e2]
    have HK : Hd (cOk tag n = true) := ⟨hk⟩
    clear hk e1 e2
    obtain ⟨S, hS⟩ : ∃ S, decS tag bs = S := ⟨_, rfl⟩
    have HS : Hd (decS tag bs = S) := ⟨hS⟩
    obtain ⟨ok, hok⟩ : ∃ ok, decOk tag bs = ok := ⟨_, rfl⟩
    have HO : Hd (decOk tag bs = ok) := ⟨hok⟩
    rw [hS, hok]
    clear hS hok
    go_enter Tryz.func52, Tryz.ntmps52
    go_wp2_with fail
    refine (specCellOk_any tag ao n c _).mono ?_
    rintro e w1 ⟨rfl, hB⟩
    rewrite [HK.out]
    have HB : Hd (Below w.heap.size w w1) := ⟨Below.next (below_lit w _) hB⟩
    obtain ⟨b0, b1, _, _⟩ := cells2 w1 w.heap.size _ _ _ (box_at hB)
    clear hB
    go_wp2_with fail
    refine (specDecode_o tag ao n c bs _ (HC.out.below HB.out) hl).mono ?_
    rintro e w2 ⟨rfl, hB2⟩
    rewrite [HS.out, HO.out]
    have HB2 : Hd (Below w.heap.size w w2) := ⟨Below.next HB.out hB2⟩
    clear hB2 HB b0 b1
    go_wp2_with fail
    go_ret2
    exact ⟨rfl, HB2.out⟩

theorem two_at {w w1 : World} {v : Value} {tag : Int} {B : Obj} (hb : Below ((w.alloc (.cells #[.int .i64 tag, v] 65)).alloc B).heap.size ((w.alloc (.cells #[.int .i64 tag, v] 65)).alloc B) w1) :
    w1.heap[w.heap.size]? = some (.cells #[.int .i64 tag, v] 65 (0, 0)) ∧ w1.heap[w.heap.size + 1]? = some B := by
  obtain ⟨h1, h2⟩ := laid2 w (.cells #[.int .i64 tag, v] 65) B
  exact ⟨(hb.block _ (by simp; omega)).trans h1, (hb.block _ (by simp)).trans h2⟩

set_option maxHeartbeats 400000 in
theorem specSameText_any (t1 : Int) (o1 : Option Addr) (n1 c1 : Nat) (b1 : List UInt8) (t2 : Int) (o2 : Option Addr) (n2 c2 : Nat) (b2 : List UInt8) (w : World) (h1 : CellAt w o1 n1 c1 b1) (hl1 : n1 ≤ 1048576) (h2 : CellAt w o2 n2 c2 b2) (hl2 : n2 ≤ 1048576) :
    Calls Tryz.prog 54 #[.agg #[.int .i64 t1, .slice o1 n1 c1], .agg #[.int .i64 t2, .slice o2 n2 c2]] w fun e w' => e = .returned (.bool (mOk t1 b1 t2 b2)) ∧ Below w.heap.size w w' := by
  have H1 : Hd (CellAt w o1 n1 c1 b1) := ⟨h1⟩
  have H2 : Hd (CellAt w o2 n2 c2 b2) := ⟨h2⟩
  obtain ⟨x, hx⟩ : ∃ x, (tS t1 b1).toArray = x := ⟨_, rfl⟩
  have HX : Hd ((tS t1 b1).toArray = x) := ⟨hx⟩
  obtain ⟨y, hy⟩ : ∃ y, (tS t2 b2).toArray = y := ⟨_, rfl⟩
  have HY : Hd ((tS t2 b2).toArray = y) := ⟨hy⟩
  obtain ⟨k1, hk1⟩ : ∃ k, tOk t1 b1 = k := ⟨_, rfl⟩
  have HK1 : Hd (tOk t1 b1 = k1) := ⟨hk1⟩
  obtain ⟨k2, hk2⟩ : ∃ k, tOk t2 b2 = k := ⟨_, rfl⟩
  have HK2 : Hd (tOk t2 b2 = k2) := ⟨hk2⟩
  have E : Hd (mOk t1 b1 t2 b2 = (k1 && k2 && ((⟨x⟩ : ByteArray).toList == (⟨y⟩ : ByteArray).toList))) := ⟨by
    rw [ByteArray.toList_eq, ByteArray.toList_eq, ← hx, ← hy, ← hk1, ← hk2]
    rfl⟩
  rw [E.out]
  clear h1 h2 hx hy hk1 hk2 E
  go_enter Tryz.func54, Tryz.ntmps54
  go_wp2_with fail
  refine (specCellText_any t1 o1 n1 c1 b1 _ (H1.out.below (below_lit2 w _ _)) hl1).mono ?_
  rintro e w1 ⟨rfl, hB1⟩
  rewrite [HX.out, HK1.out]
  have B1 : Hd (Below w.heap.size w w1) := ⟨Below.next (below_lit2 w _ _) hB1⟩
  obtain ⟨_, l2⟩ := two_at hB1
  obtain ⟨r0, r1, _, _⟩ := cells2 _ (w.heap.size + 1) _ _ _ l2
  clear hB1 l2
  go_wp2_with fail
  refine (specCellText_any t2 o2 n2 c2 b2 _ (H2.out.below B1.out) hl2).mono ?_
  rintro e w2 ⟨rfl, hB2⟩
  rewrite [HY.out, HK2.out]
  have B2 : Hd (Below w.heap.size w w2) := ⟨Below.next B1.out hB2⟩
  clear hB2 B1 r0 r1
  cases k1 with
  | false =>
    go_wp2_with fail
    go_ret
    exact ⟨rfl, B2.out⟩
  | true =>
    cases k2 with
    | false =>
      go_wp2_with fail
      go_ret
      exact ⟨rfl, B2.out⟩
    | true =>
      go_wp2_with fail
      go_ret
      exact ⟨rfl, B2.out⟩

end Go.Proofs.YtlididoalekeoaaGreatDoor
