/- Plain facts on cells: what a cell says, the cell of a text, a cell turned to another set. -/
import Derived.Test.YtpafjehphajbhaaGreatDoorCodeA
namespace Go.Proofs.YtpafjehphajbhaaGreatDoor
set_option maxRecDepth 4000
open Go.RowKit

/-- Whether it is a cell: its tag and how many bytes it has. -/
def cOk (tag : Int) (n : Nat) : Bool := inB tag 0 5 && decide ((n : Int) ≤ 20)
/-- What a cell says, and whether it says something. -/
def tOk (tag : Int) (bs : List UInt8) : Bool := cOk tag bs.length && decOk tag bs
def tS (tag : Int) (bs : List UInt8) : List UInt8 := if tOk tag bs = true then decS tag bs else []
/-- The cell of a text. -/
def oOk (tag : Int) (t : List UInt8) : Bool := encOk tag t && decide (((encS tag t).length : Int) ≤ 20)
def oTag (tag : Int) (t : List UInt8) : Int := if oOk tag t = true then tag else 0
def oB (tag : Int) (t : List UInt8) : List UInt8 := if oOk tag t = true then encS tag t else []
/-- A cell turned. -/
def nOk (tag : Int) (bs : List UInt8) (to : Int) : Bool := tOk tag bs && oOk to (tS tag bs)
def nTag (tag : Int) (bs : List UInt8) (to : Int) : Int := if nOk tag bs to = true then to else tag
def nB (tag : Int) (bs : List UInt8) (to : Int) : List UInt8 := if nOk tag bs to = true then encS to (tS tag bs) else bs
/-- Whether two say the same. -/
def mOk (t1 : Int) (b1 : List UInt8) (t2 : Int) (b2 : List UInt8) : Bool := tOk t1 b1 && tOk t2 b2 && (tS t1 b1 == tS t2 b2)

theorem tS_yes {tag : Int} {bs : List UInt8} (h : cOk tag bs.length = true) : tOk tag bs = decOk tag bs ∧ tS tag bs = decS tag bs := by
  have e : tOk tag bs = decOk tag bs := by unfold tOk; rw [h]; rfl
  refine ⟨e, ?_⟩
  unfold tS
  rw [e]
  cases hd : decOk tag bs
  · unfold decS; rw [hd]; rfl
  · rfl
theorem tS_no {tag : Int} {bs : List UInt8} (h : cOk tag bs.length = false) : tOk tag bs = false ∧ tS tag bs = [] := by
  have e : tOk tag bs = false := by unfold tOk; rw [h]; rfl
  exact ⟨e, by unfold tS; rw [e]; rfl⟩
theorem tS_f {tag : Int} {bs : List UInt8} (h : tOk tag bs = false) : tS tag bs = [] := by unfold tS; rw [h]; rfl
theorem tS_len (tag : Int) (bs : List UInt8) : (tS tag bs).length ≤ 80 := by
  unfold tS
  split
  · rename_i h
    have h1 : cOk tag bs.length = true := by unfold tOk at h; exact (Bool.and_eq_true _ _ ▸ h).1
    have h2 : ((bs.length : Nat) : Int) ≤ 20 := by unfold cOk at h1; exact of_decide_eq_true (Bool.and_eq_true _ _ ▸ h1).2
    have := decS_len tag bs
    omega
  · simp
theorem oOk_t {tag : Int} {t : List UInt8} (h : oOk tag t = true) : encOk tag t = true ∧ (encS tag t).length ≤ 20 ∧ oTag tag t = tag ∧ oB tag t = encS tag t := by
  have h' := h
  simp only [oOk, Bool.and_eq_true, decide_eq_true_eq] at h'
  exact ⟨h'.1, by omega, if_pos h, if_pos h⟩
theorem oOk_f {tag : Int} {t : List UInt8} (h : oOk tag t = false) : oTag tag t = 0 ∧ oB tag t = [] := by
  unfold oTag oB
  rw [h]
  exact ⟨rfl, rfl⟩
theorem oB_len (tag : Int) (t : List UInt8) : (oB tag t).length ≤ 20 := by
  unfold oB
  split
  · rename_i h; exact (oOk_t h).2.1
  · simp
theorem nOk_t {tag to : Int} {bs : List UInt8} (h : nOk tag bs to = true) : tOk tag bs = true ∧ oOk to (tS tag bs) = true ∧ nTag tag bs to = to ∧ nB tag bs to = encS to (tS tag bs) := by
  have h' := h
  simp only [nOk, Bool.and_eq_true] at h'
  exact ⟨h'.1, h'.2, if_pos h, if_pos h⟩
theorem nOk_f {tag to : Int} {bs : List UInt8} (h : nOk tag bs to = false) : nTag tag bs to = tag ∧ nB tag bs to = bs := by
  unfold nTag nB
  rw [h]
  exact ⟨rfl, rfl⟩
theorem cOk_in {tag : Int} {n : Nat} (h : cOk tag n = true) : inB tag 0 5 = true ∧ n ≤ 20 := by
  simp only [cOk, Bool.and_eq_true, decide_eq_true_eq] at h
  exact ⟨h.1, by omega⟩
theorem nB_len (tag to : Int) (bs : List UInt8) : (nB tag bs to).length ≤ max bs.length 20 := by
  unfold nB
  split
  · rename_i h
    have := (oOk_t (nOk_t h).2.1).2.1
    omega
  · omega

/-- A text comes back of its cell. -/
theorem cell_back {tag : Int} {t : List UInt8} (h : oOk tag t = true) : cOk tag (encS tag t).length = true ∧ tOk tag (encS tag t) = true ∧ tS tag (encS tag t) = t := by
  obtain ⟨h1, h2, _, _⟩ := oOk_t h
  obtain ⟨d1, d2⟩ := enc_dec h1
  have hin : inB tag 0 5 = true := by
    have := h1
    simp only [encOk, encIn, Bool.and_eq_true] at this
    exact this.1.1
  have hc : cOk tag (encS tag t).length = true := by
    simp only [cOk, Bool.and_eq_true, decide_eq_true_eq]; exact ⟨hin, by omega⟩
  obtain ⟨e1, e2⟩ := tS_yes hc
  exact ⟨hc, by rw [e1]; exact d1, by rw [e2]; exact d2⟩
/-- Turned to other signs, and back, a cell is as it was. -/
theorem turn_back {tag to : Int} {bs : List UInt8} (h : nOk tag bs to = true) : tOk to (nB tag bs to) = true ∧ tS to (nB tag bs to) = tS tag bs ∧ nOk to (nB tag bs to) tag = true ∧ nB to (nB tag bs to) tag = bs := by
  obtain ⟨h1, h2, _, h4⟩ := nOk_t h
  obtain ⟨_, b1, b2⟩ := cell_back h2
  rw [← h4] at b1 b2
  have hc : cOk tag bs.length = true := by unfold tOk at h1; exact (Bool.and_eq_true _ _ ▸ h1).1
  have hd : decOk tag bs = true := by unfold tOk at h1; exact (Bool.and_eq_true _ _ ▸ h1).2
  obtain ⟨_, e2⟩ := tS_yes hc
  obtain ⟨r1, r2, _⟩ := dec_enc hd
  rw [← e2] at r1 r2
  have ho : oOk tag (tS tag bs) = true := by
    have := (cOk_in hc).2
    simp only [oOk, Bool.and_eq_true, decide_eq_true_eq]
    exact ⟨r1, by rw [r2]; omega⟩
  have hn : nOk to (nB tag bs to) tag = true := by
    simp only [nOk, Bool.and_eq_true]
    exact ⟨b1, by rw [b2]; exact ho⟩
  refine ⟨b1, b2, hn, ?_⟩
  rw [(nOk_t hn).2.2.2, b2, r2]
theorem same_turn {tag to : Int} {bs : List UInt8} (h : nOk tag bs to = true) : mOk to (nB tag bs to) tag bs = true := by
  obtain ⟨b1, b2, _, _⟩ := turn_back h
  simp only [mOk, Bool.and_eq_true, beq_iff_eq]
  exact ⟨⟨b1, (nOk_t h).1⟩, b2⟩
theorem mOk_comm (t1 : Int) (b1 : List UInt8) (t2 : Int) (b2 : List UInt8) : mOk t1 b1 t2 b2 = mOk t2 b2 t1 b1 := by
  unfold mOk
  rw [Bool.and_comm (tOk t1 b1), Bool.beq_comm]

end Go.Proofs.YtpafjehphajbhaaGreatDoor
