/- Plain facts by which FnWords stands: words and texts come back of their bytes, and cut they do not. -/
import Derived.Test.YtdaieeonjakdeaaWords
namespace Go.Proofs.Ytdaieeonjakdeaa
open Go.RowKit

theorem word_back (n : Int) : (wordOf (hiB n) (loB n) : Int) = n % 65536 := by
  unfold wordOf
  have h1 := hiB_val n
  have h2 := loB_val n
  omega
theorem word_and (n : Int) : bits .and .i64 n 65535 = (wordOf (hiB n) (loB n) : Int) := by
  rw [word_back]
  show IntKind.i64.wrap ((BitVec.ofInt 64 n &&& BitVec.ofInt 64 65535).toNat : Int) = _
  have e1 : (BitVec.ofInt 64 65535).toNat = 2 ^ 16 - 1 := by decide
  rw [BitVec.toNat_and, e1, Nat.and_two_pow_sub_one_eq_mod, BitVec.toNat_ofInt, IntKind.wrap_i64]
  omega
theorem word_small (m : Nat) (h : m < 65536) : wordOf (hiB (m : Int)) (loB (m : Int)) = m := by
  have := word_back (m : Int); omega

theorem getW_put (ds : List UInt8) (x y : UInt8) (r : List UInt8) : getW (ds ++ [x, y] ++ r) (ds.length : Int) = ((wordOf x y : Int), ((ds.length + 2 : Nat) : Int), true) := by
  rw [getW_in _ ds.length (by simp)]
  simp [List.getD]
theorem getW_cut (bs : List UInt8) (k : Nat) (h : bs.length ≤ k + 1) : getW bs (k : Int) = (0, 0, false) := getW_out bs k (.inr (by omega))

/-- The bytes of a text that is put behind ds. -/
def textBytes (ds : List UInt8) (s : ByteArray) : List UInt8 := ds ++ [hiB (s.size : Int), loB (s.size : Int)] ++ s.data.toList
theorem textBytes_length (ds : List UInt8) (s : ByteArray) : (textBytes ds s).length = ds.length + 2 + s.size := by simp [textBytes]; omega
theorem getText_put (ds : List UInt8) (s : ByteArray) (h : s.size ≤ 60) : getText (textBytes ds s) (ds.length : Int) = (s, ((textBytes ds s).length : Int), true) := by
  have hg := getW_put ds (hiB (s.size : Int)) (loB (s.size : Int)) s.data.toList
  have hw := word_small s.size (by omega)
  rw [hw] at hg
  have hl := textBytes_length ds s
  unfold getText
  rw [show getW (textBytes ds s) (ds.length : Int) = ((s.size : Int), ((ds.length + 2 : Nat) : Int), true) from hg]
  rw [if_pos ⟨rfl, by simp; omega, by simp [hl]; omega⟩]
  have e1 : ((textBytes ds s).drop (ds.length + 2)).take s.size = s.data.toList := by
    unfold textBytes
    rw [List.drop_append_of_le_length (by simp), List.drop_of_length_le (by simp)]
    simp only [List.nil_append]
    exact List.take_of_length_le (by simp)
  simp only [Int.toNat_natCast, e1, hl]
  refine Prod.ext rfl (Prod.ext ?_ rfl)
  simp
theorem getText_less (ds : List UInt8) (s : ByteArray) (h : s.size ≤ 60) : (getText ((textBytes ds s).take ((textBytes ds s).length - 1)) (ds.length : Int)).2.2 = false := by
  have hl := textBytes_length ds s
  unfold getText
  by_cases h0 : s.size = 0
  · rw [getW_cut _ ds.length (by simp; omega)]
    simp
  · have e : (textBytes ds s).take ((textBytes ds s).length - 1) = ds ++ [hiB (s.size : Int), loB (s.size : Int)] ++ s.data.toList.take (s.size - 1) := by
      rw [hl]
      unfold textBytes
      rw [List.take_append, List.take_of_length_le (by simp; omega)]
      congr 2
      simp; omega
    rw [e]
    have hg := getW_put ds (hiB (s.size : Int)) (loB (s.size : Int)) (s.data.toList.take (s.size - 1))
    have hw := word_small s.size (by omega)
    rw [hw] at hg
    rw [hg, if_neg (by simp; omega)]

end Go.Proofs.Ytdaieeonjakdeaa
