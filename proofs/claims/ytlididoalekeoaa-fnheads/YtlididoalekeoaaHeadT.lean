/- Plain facts by which FnHeads stands: a head with one byte turned is none. -/
import Derived.Test.YtlididoalekeoaaHeadP
import Derived.Test.YtlididoalekeoaaSumsLaw
namespace Go.Proofs.Ytlididoalekeoaa
set_option maxRecDepth 4000
open Go.RowKit

theorem isHd_word {bs : List UInt8} (h : isHd bs = true) : wordOf (bs.getD 4 0) (bs.getD 5 0) = sumOf (bs.take 4) := by
  unfold isHd at h
  simp only [Bool.and_eq_true, beq_iff_eq] at h
  obtain ⟨⟨h6, _⟩, h4⟩ := h
  have g4 := congrArg Prod.fst (getW_in bs 4 (by omega))
  rw [show ((4 : Nat) : Int) = 4 from rfl] at g4
  rw [g4] at h4
  dsimp only at h4
  exact_mod_cast h4
theorem byte_eq {a b : UInt8} (h : a.toNat = b.toNat) : a = b := UInt8.toNat_inj.1 h
theorem six_turn (S : List UInt8 → Nat) (a b c d x y v : UInt8) (w0 : wordOf x y = S [a, b, c, d]) (turn : ∀ j, j < 4 → v ≠ [a, b, c, d].getD j 0 → S ([a, b, c, d].set j v) ≠ S [a, b, c, d]) (k : Nat) (hk : k < 6) (hv : v ≠ [a, b, c, d, x, y].getD k 0)
    (w1 : wordOf (([a, b, c, d, x, y].set k v).getD 4 0) (([a, b, c, d, x, y].set k v).getD 5 0) = S (([a, b, c, d, x, y].set k v).take 4)) : False := by
  match k, hk with
  | 0, _ => exact turn 0 (by omega) hv (w1.symm.trans w0)
  | 1, _ => exact turn 1 (by omega) hv (w1.symm.trans w0)
  | 2, _ => exact turn 2 (by omega) hv (w1.symm.trans w0)
  | 3, _ => exact turn 3 (by omega) hv (w1.symm.trans w0)
  | 4, _ =>
    have s1 : wordOf v y = S [a, b, c, d] := w1
    have e2 := s1.trans w0.symm
    unfold wordOf at e2
    exact hv (byte_eq (by have := x.toNat_lt; have := y.toNat_lt; have := v.toNat_lt; show v.toNat = x.toNat; omega))
  | 5, _ =>
    have s1 : wordOf x v = S [a, b, c, d] := w1
    have e2 := s1.trans w0.symm
    unfold wordOf at e2
    exact hv (byte_eq (by have := x.toNat_lt; have := y.toNat_lt; have := v.toNat_lt; show v.toNat = y.toNat; omega))
theorem sum_turn4 (a b c d v : UInt8) : ∀ j, j < 4 → v ≠ [a, b, c, d].getD j 0 → sumOf ([a, b, c, d].set j v) ≠ sumOf [a, b, c, d] := fun j hj hne => sumOf_turn [a, b, c, d] j hj v (by
  have e : [a, b, c, d].getD j 0 = [a, b, c, d][j] := by simp [List.getD, List.getElem?_eq_getElem (show j < [a, b, c, d].length from hj)]
  rw [← e]; exact hne)
theorem hd_turn_at (bs : List UInt8) (a b c d x y v : UInt8) (hb : bs = [a, b, c, d] ++ [x, y]) (h0 : isHd bs = true) (k : Nat) (hk : k < 6) (hv : v ≠ bs.getD k 0) (h1 : isHd (bs.set k v) = true) : False := by
  have w0 := isHd_word h0
  have w1 := isHd_word h1
  have e : bs = [a, b, c, d, x, y] := hb
  rw [e] at w0 w1 hv
  have ht := sum_turn4 a b c d v
  generalize sumOf = S at w0 w1 ht
  exact six_turn S a b c d x y v w0 ht k hk hv w1
/-- One byte of a head turned: no head. -/
theorem hd_turn {gen n : Int} (h : hdOk gen n = true) (k : Nat) (hk : k < 6) (v : UInt8) (hv : v ≠ (hdB gen n).getD k 0) : isHd ((hdB gen n).set k v) = false := by
  rw [Bool.eq_false_iff]
  intro e
  exact hd_turn_at (hdB gen n) _ _ _ _ _ _ v (hdB_t h) (hdB_is h).1 k hk hv e

end Go.Proofs.Ytlididoalekeoaa
