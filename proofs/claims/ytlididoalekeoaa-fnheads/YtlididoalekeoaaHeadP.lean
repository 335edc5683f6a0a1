/- Plain facts on a head's bytes. -/
import Derived.Test.YtlididoalekeoaaPut
import Derived.Test.YtlididoalekeoaaSum
import Derived.Test.YtlididoalekeoaaGet
namespace Go.Proofs.Ytlididoalekeoaa
set_option maxRecDepth 4000
open Go.RowKit

def hdRow (gen n : Int) : List UInt8 := [hiB gen, loB gen, hiB n, loB n]
def hdOk (gen n : Int) : Bool := inB gen 1 60000 && inB n 0 30
def hdB (gen n : Int) : List UInt8 := if hdOk gen n = true then hdRow gen n ++ [hiB ((sumOf (hdRow gen n) : Nat) : Int), loB ((sumOf (hdRow gen n) : Nat) : Int)] else []
/-- Whether bytes are of a head. -/
def isHd (bs : List UInt8) : Bool := bs.length == 6 && hdOk (getW bs 0).1 (getW bs 2).1 && (getW bs 4).1 == ((sumOf (bs.take 4) : Nat) : Int)
theorem hdB_len (gen n : Int) : (hdB gen n).length ≤ 6 := by unfold hdB hdRow; split <;> simp
theorem hdB_f {gen n : Int} (h : hdOk gen n = false) : hdB gen n = [] := by unfold hdB; rw [h]; rfl
theorem hdB_t {gen n : Int} (h : hdOk gen n = true) : hdB gen n = hdRow gen n ++ [hiB ((sumOf (hdRow gen n) : Nat) : Int), loB ((sumOf (hdRow gen n) : Nat) : Int)] := by unfold hdB; rw [h]; rfl
theorem hdOk_iff (gen n : Int) : hdOk gen n = true ↔ (1 ≤ gen ∧ gen ≤ 60000) ∧ (0 ≤ n ∧ n ≤ 30) := by unfold hdOk inB; simp
theorem word_back {n : Int} (h0 : 0 ≤ n) (h1 : n ≤ 65535) : (wordOf (hiB n) (loB n) : Int) = n := by
  have e1 := hiB_val n
  have e2 := loB_val n
  unfold wordOf; omega
theorem hi_word (x y : UInt8) : hiB (wordOf x y : Int) = x := by
  have e1 := hiB_val (wordOf x y : Int)
  have hx := x.toNat_lt; have hy := y.toNat_lt
  apply UInt8.toNat_inj.1
  unfold wordOf at e1 ⊢; omega
theorem lo_word (x y : UInt8) : loB (wordOf x y : Int) = y := by
  have e1 := loB_val (wordOf x y : Int)
  have hx := x.toNat_lt; have hy := y.toNat_lt
  apply UInt8.toNat_inj.1
  unfold wordOf at e1 ⊢; omega
/-- The bytes of a head are one, of these numbers. -/
theorem hdB_is {gen n : Int} (h : hdOk gen n = true) : isHd (hdB gen n) = true ∧ (getW (hdB gen n) 0).1 = gen ∧ (getW (hdB gen n) 2).1 = n := by
  obtain ⟨⟨h1, h2⟩, h3, h4⟩ := (hdOk_iff gen n).1 h
  have hl := sumOf_lt (hdRow gen n)
  unfold hdB
  rw [if_pos h]
  have e0 : (getW (hdRow gen n ++ [hiB ((sumOf (hdRow gen n) : Nat) : Int), loB ((sumOf (hdRow gen n) : Nat) : Int)]) 0).1 = gen := by
    have := getW_in (hdRow gen n ++ [hiB ((sumOf (hdRow gen n) : Nat) : Int), loB ((sumOf (hdRow gen n) : Nat) : Int)]) 0 (by simp)
    rw [show (0 : Int) = ((0 : Nat) : Int) from rfl, this]
    exact word_back (by omega) (by omega)
  have e2 : (getW (hdRow gen n ++ [hiB ((sumOf (hdRow gen n) : Nat) : Int), loB ((sumOf (hdRow gen n) : Nat) : Int)]) 2).1 = n := by
    have := getW_in (hdRow gen n ++ [hiB ((sumOf (hdRow gen n) : Nat) : Int), loB ((sumOf (hdRow gen n) : Nat) : Int)]) 2 (by simp [hdRow])
    rw [show (2 : Int) = ((2 : Nat) : Int) from rfl, this]
    exact word_back (by omega) (by omega)
  have e4 : (getW (hdRow gen n ++ [hiB ((sumOf (hdRow gen n) : Nat) : Int), loB ((sumOf (hdRow gen n) : Nat) : Int)]) 4).1 = ((sumOf (hdRow gen n) : Nat) : Int) := by
    have := getW_in (hdRow gen n ++ [hiB ((sumOf (hdRow gen n) : Nat) : Int), loB ((sumOf (hdRow gen n) : Nat) : Int)]) 4 (by simp [hdRow])
    rw [show (4 : Int) = ((4 : Nat) : Int) from rfl, this]
    exact word_back (by omega) (by omega)
  refine ⟨?_, e0, e2⟩
  unfold isHd
  rw [e0, e2, e4, h]
  have et : (hdRow gen n ++ [hiB ((sumOf (hdRow gen n) : Nat) : Int), loB ((sumOf (hdRow gen n) : Nat) : Int)]).take 4 = hdRow gen n := rfl
  rw [et]
  simp [hdRow]
/-- What is a head has the bytes of its numbers. -/
theorem isHd_eq {bs : List UInt8} (h : isHd bs = true) : bs = hdB (getW bs 0).1 (getW bs 2).1 := by
  unfold isHd at h
  simp only [Bool.and_eq_true, beq_iff_eq] at h
  obtain ⟨⟨h6, hok⟩, hs⟩ := h
  unfold hdB
  rw [if_pos hok]
  have g0 := congrArg Prod.fst (getW_in bs 0 (by omega))
  have g2 := congrArg Prod.fst (getW_in bs 2 (by omega))
  have g4 := congrArg Prod.fst (getW_in bs 4 (by omega))
  simp only [Int.natCast_zero] at g0
  rw [show ((2 : Nat) : Int) = 2 from rfl] at g2
  rw [show ((4 : Nat) : Int) = 4 from rfl] at g4
  dsimp only at g0 g2 g4
  have er : hdRow (getW bs 0).1 (getW bs 2).1 = bs.take 4 := by
    unfold hdRow
    rw [g0, g2, hi_word, lo_word, hi_word, lo_word]
    match bs, h6 with
    | [_, _, _, _, _, _], _ => rfl
  rw [er, ← hs, g4, hi_word, lo_word]
  match bs, h6 with
  | [_, _, _, _, _, _], _ => rfl
/-- The program's way to ask it: bytes that are not nothing, and that HeadOf has of the numbers read. -/
theorem hd_same (bs : List UInt8) (n : Int) (hn : n = (getW bs (getW bs 0).2.1).1) : (decide (bs.length = 0) || !(bs == hdB (getW bs 0).1 n)) = !isHd bs := by
  by_cases h : isHd bs = true
  · have e := isHd_eq h
    have h6 : bs.length = 6 := by unfold isHd at h; simp only [Bool.and_eq_true, beq_iff_eq] at h; exact h.1.1
    have g0 : (getW bs 0).2.1 = 2 := congrArg (fun x => x.2.1) (getW_in bs 0 (by omega))
    rw [g0] at hn
    subst hn
    rw [← e, h, h6]; simp
  · by_cases h0 : bs.length = 0
    · simp [h0, h]
    · have hne : bs ≠ hdB (getW bs 0).1 n := by
        intro e
        by_cases hok : hdOk (getW bs 0).1 n = true
        · have := (hdB_is hok).1
          rw [← e] at this; exact h this
        · unfold hdB at e; rw [if_neg hok] at e; rw [e] at h0; exact h0 rfl
      simp [h0, h, hne]
/-- The specification's way to ask it. -/
theorem hd_spec (bs : List UInt8) (h6 : bs.length = 6) : isHd bs = (inB (getW bs 0).1 1 60000 && decide ((getW bs 2).1 ≤ 30) && (getW bs 4).1 == ((sumOf (bs.take 4) : Nat) : Int)) := by
  have g2 := congrArg Prod.fst (getW_in bs 2 (by omega))
  rw [show ((2 : Nat) : Int) = 2 from rfl] at g2
  have hn : (0 : Int) ≤ (getW bs 2).1 := by rw [g2]; dsimp only; omega
  have e : inB (getW bs 2).1 0 30 = decide ((getW bs 2).1 ≤ 30) := by unfold inB; simp [hn]
  unfold isHd hdOk
  rw [h6, e]; simp

end Go.Proofs.Ytlididoalekeoaa
