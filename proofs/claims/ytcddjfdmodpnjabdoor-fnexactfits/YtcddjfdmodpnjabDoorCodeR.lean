/- Contracts of readAll, Decode and DecodeLossy, in the program. -/
import Derived.Test.YtcddjfdmodpnjabDoorCodeI
namespace Go.Proofs.YtcddjfdmodpnjabDoor
open Go.RowKit

/-- Where the loop of readAll stands. -/
structure RAt (w : World) (cs : Int) (bs : List UInt8) (k : Nat) (v : Value) (lost : Nat) (wr : World) : Prop where
  out : ∃ xs : List UInt8, ReadAt cs bs k xs lost ∧ wr.ownsRow w.heap.size 5 1 v xs.length (xs.map cb) ∧ Below w.heap.size w wr
theorem RAt.fits {w : World} {cs : Int} {bs : List UInt8} {k : Nat} {v : Value} {lost : Nat} {wr : World} (h : RAt w cs bs k v lost wr) : k ≤ bs.length ∧ lost ≤ k := by
  obtain ⟨xs, h1, _, _⟩ := h.out
  exact ⟨h1.le, h1.few⟩
theorem RAt.bel {w : World} {cs : Int} {bs : List UInt8} {k : Nat} {v : Value} {lost : Nat} {wr : World} (h : RAt w cs bs k v lost wr) : Below w.heap.size w wr := by
  obtain ⟨xs, _, _, h3⟩ := h.out; exact h3
theorem rAt_zero (w : World) (cs : Int) (bs : List UInt8) (L : Nat) (hL : L ≤ maxLen) : RAt w cs bs 0 (.slice (some ⟨w.heap.size, 0, none⟩) 0 L) 0 (w.alloc (.cells (madeCells #[.int .u8 0] L) 5)) := by
  refine ⟨[], readAt_zero cs bs, ?_, below_lit _ _⟩
  exact Own.owns (bs := []) ⟨madeCells #[.int .u8 0] L, heap_alloc_new w _, Nat.zero_le _, hL, by rw [← Array.length_toList, zeros_length], by simp⟩ rfl (Nat.le_refl _)

/-- A text and a number. -/
structure TextN (w : World) (bs : List UInt8) (n : Nat) (e : Ending) (w' : World) : Prop where
  out : e = .returned (.tuple #[.string ⟨bs.toArray⟩, .int .i64 (n : Int)]) ∧ Below w.heap.size w w'
structure TextB (w : World) (bs : List UInt8) (ok : Bool) (e : Ending) (w' : World) : Prop where
  out : e = .returned (.tuple #[.string ⟨bs.toArray⟩, .bool ok]) ∧ Below w.heap.size w w'

theorem dec_out {cs : Int} {t : List UInt8} (h : inB cs 0 5 = false) : decOk cs t = false ∧ decS cs t = [] ∧ decLS cs t = [] ∧ decLN cs t = 0 := by
  have h1 : decOk cs t = false := by unfold decOk; rw [h]; rfl
  exact ⟨h1, by unfold decS; rw [h1]; rfl, by unfold decLS; rw [h]; rfl, by unfold decLN; rw [h]; rfl⟩
theorem dec_no {cs : Int} {t : List UInt8} (hw : lostI (itemsOf cs t) ≠ 0) : decOk cs t = false ∧ decS cs t = [] := by
  have h1 : decOk cs t = false := by unfold decOk; rw [decide_eq_false hw]; simp
  exact ⟨h1, by unfold decS; rw [h1]; rfl⟩
theorem dec_yes {cs : Int} {t : List UInt8} (h : inB cs 0 5 = true) (hw : lostI (itemsOf cs t) = 0) : decOk cs t = true ∧ decS cs t = textI (itemsOf cs t) := by
  have h1 : decOk cs t = true := by unfold decOk; rw [h, decide_eq_true hw]; rfl
  exact ⟨h1, by unfold decS; rw [if_pos h1]⟩
theorem dec_lin {cs : Int} {t : List UInt8} (h : inB cs 0 5 = true) : decLS cs t = textI (itemsOf cs t) ∧ decLN cs t = lostI (itemsOf cs t) := ⟨if_pos h, if_pos h⟩

end Go.Proofs.YtcddjfdmodpnjabDoor
