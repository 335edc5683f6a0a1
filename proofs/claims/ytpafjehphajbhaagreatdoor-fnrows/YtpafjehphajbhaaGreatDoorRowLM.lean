/- What the laws of stage 9 carry along: the law's own row, rows in boxes of their own. What the law of RowOf carries along: a row that is answered with a code. -/
import Derived.Test.YtpafjehphajbhaaGreatDoorRowVW
import Derived.Test.YtpafjehphajbhaaGreatDoorRowT
import Derived.Test.YtpafjehphajbhaaGreatDoorCellL
namespace Go.Proofs.YtpafjehphajbhaaGreatDoor
set_option maxRecDepth 4000
open Go.RowKit

theorem RowOut.at_ {w : World} {k : ByteArray} {t1 : Int} {b1 : List UInt8} {t2 : Int} {b2 : List UInt8} {has : Int} {asd : Bool} {e : Ending} {w' : World} (h : RowOut w ⟨k, t1, b1, t2, b2, has, asd⟩ e w') :
    ∃ a1 n1 c1 a2 n2 c2, e = .returned (.agg #[.string k, .int .i64 t1, .slice a1 n1 c1, .int .i64 t2, .slice a2 n2 c2, .int .i64 has, .bool asd]) ∧ b1.length = n1 ∧ b2.length = n2 ∧ Apart w' (w.heap.size + 2) a1 c1 b1 a2 c2 b2 ∧ w.heap.size + 1 < w'.heap.size ∧ Below w.heap.size w w' := h.out

theorem fillR_len {r : RowD} (h1 : r.b1.length ≤ 1048576) (h2 : r.b2.length ≤ 1048576) : (fillR r).b1.length ≤ 1048576 ∧ (fillR r).b2.length ≤ 1048576 := by
  unfold fillR
  split
  · exact ⟨h1, h2⟩
  · split
    · exact ⟨h1, by have := nB_len r.t1 0 r.b1; show (nB r.t1 r.b1 0).length ≤ _; omega⟩
    · exact ⟨h1, h2⟩
theorem cutR_len {r : RowD} (h1 : r.b1.length ≤ 1048576) (h2 : r.b2.length ≤ 1048576) : (cutR r).b1.length ≤ 1048576 ∧ (cutR r).b2.length ≤ 1048576 := by
  unfold cutR
  split
  · exact ⟨h1, h2⟩
  · exact ⟨by show (0 : Nat) ≤ _; omega, h2⟩
theorem backR_len {r : RowD} (h1 : r.b1.length ≤ 1048576) (h2 : r.b2.length ≤ 1048576) : (backR r).b1.length ≤ 1048576 ∧ (backR r).b2.length ≤ 1048576 := by
  unfold backR
  split
  · exact ⟨h1, h2⟩
  · split
    · exact ⟨h1, by show (0 : Nat) ≤ _; omega⟩
    · exact ⟨h1, h2⟩

theorem RowTup.at_ {w : World} {k : ByteArray} {t1 : Int} {b1 : List UInt8} {t2 : Int} {b2 : List UInt8} {has : Int} {asd : Bool} {code : Int} {e : Ending} {w' : World} (h : RowTup w ⟨k, t1, b1, t2, b2, has, asd⟩ code e w') :
    ∃ a1 n1 c1 a2 n2 c2, e = .returned (.tuple #[.agg #[.string k, .int .i64 t1, .slice a1 n1 c1, .int .i64 t2, .slice a2 n2 c2, .int .i64 has, .bool asd], .int .i64 code]) ∧ b1.length = n1 ∧ b2.length = n2 ∧ Apart w' (w.heap.size + 2) a1 c1 b1 a2 c2 b2 ∧ w.heap.size + 1 < w'.heap.size ∧ Below w.heap.size w w' := h.out
theorem rowV_len (p : Int) (k : ByteArray) (cs : Int) (s : List UInt8) : (rowV p k cs s).b1.length ≤ 20 ∧ (rowV p k cs s).b2.length ≤ 20 := by
  cases hf : formB p k cs s
  · rw [(rowV_f hf).1]; exact ⟨Nat.zero_le _, Nat.zero_le _⟩
  · have hu : oOk 0 s = true := by
      have h := hf
      simp only [formB, Bool.and_eq_true] at h
      exact h.2
    have l0 : (encS 0 s).length ≤ 20 := (oOk_t hu).2.1
    have lc : oOk cs s = true → (encS cs s).length ≤ 20 := fun h => (oOk_t h).2.1
    unfold rowV
    rw [hf, if_neg (by simp)]
    split
    · split
      · rename_i ho; exact ⟨lc ho, Nat.zero_le _⟩
      · exact ⟨Nat.zero_le _, Nat.zero_le _⟩
    · split
      · exact ⟨Nat.zero_le _, l0⟩
      · split
        · split
          · rename_i ho; exact ⟨lc ho, Nat.zero_le _⟩
          · exact ⟨Nat.zero_le _, l0⟩
        · split
          · rename_i ho; exact ⟨lc ho, l0⟩
          · exact ⟨Nat.zero_le _, l0⟩

end Go.Proofs.YtpafjehphajbhaaGreatDoor
