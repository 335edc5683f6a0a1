/- Contracts of PutText, in the specification and in the program. Contracts of GetW, in the specification and in the program. Contracts of GetText, in the specification and in the program. Contracts of Sum, in the specification and in the program. -/
import Derived.Test.YtlididoalekeoaaGreatDoorPutA
import Derived.Lib.AppendStr
import Derived.Laws.IdiomStrings
namespace Go.Proofs.YtlididoalekeoaaGreatDoor
set_option maxRecDepth 4000
open Go.RowKit

theorem strCells_cb (s : ByteArray) : Lib.strCells s = s.data.toList.map cb := by
  simp [Lib.strCells, cb]

/-- What PutText answers. -/
def putText (bs : List UInt8) (s : ByteArray) : List UInt8 := if 60 < s.size then bs else bs ++ [hiB (s.size : Int), loB (s.size : Int)] ++ s.data.toList

theorem putText_len (bs : List UInt8) (s : ByteArray) : (putText bs s).length ≤ bs.length + 62 := by
  unfold putText; split <;> simp <;> omega

/-- What GetW answers: of the bytes bs at a place. -/
def getW (bs : List UInt8) (at_ : Int) : Int × Int × Bool :=
  if 0 ≤ at_ ∧ at_ ≤ (bs.length : Int) - 2 then ((wordOf (bs.getD at_.toNat 0) (bs.getD (at_.toNat + 1) 0) : Int), at_ + 2, true) else (0, 0, false)

theorem getW_in (bs : List UInt8) (k : Nat) (h : k + 2 ≤ bs.length) : getW bs (k : Int) = ((wordOf (bs.getD k 0) (bs.getD (k + 1) 0) : Int), ((k + 2 : Nat) : Int), true) := by
  unfold getW; rw [if_pos (by omega)]; simp
theorem getW_out (bs : List UInt8) (at_ : Int) (h : at_ < 0 ∨ (bs.length : Int) - 2 < at_) : getW bs at_ = (0, 0, false) := by
  unfold getW; rw [if_neg (by omega)]

theorem conv_none (a : Addr) (c : Nat) (w : World) : (convert 60 9 (.slice (some a) 0 c)).run Tryz.prog w = .ok (.string ⟨#[]⟩) w :=
  run_convert_bytes_back (P := Tryz.prog) w 60 9 5 a c [] Tryz.underlying60 Tryz.underlying5 Tryz.underlying9 (fun j hj => absurd hj (by simp))
theorem conv_some (b off : Nat) (l : List UInt8) (n c : Nat) (w : World) (hn : l.length = n) (hc : ∀ j, j < n → w.cell? ⟨b, off + j, none⟩ = some (.int .u8 ((l.getD j 0).toNat : Int))) :
    (convert 60 9 (.slice (some ⟨b, off, none⟩) n c)).run Tryz.prog w = .ok (.string ⟨l.toArray⟩) w := by
  subst hn
  refine run_convert_bytes_back (P := Tryz.prog) w 60 9 5 ⟨b, off, none⟩ c l Tryz.underlying60 Tryz.underlying5 Tryz.underlying9 (fun j hj => ?_)
  rw [Addr.add_lit, hc j hj]
  simp [List.getD, List.getElem?_eq_getElem hj]

/-- What GetText answers. -/
def getText (bs : List UInt8) (at_ : Int) : ByteArray × Int × Bool :=
  if (getW bs at_).2.2 = true ∧ (getW bs at_).1 ≤ 60 ∧ (getW bs at_).1 ≤ (bs.length : Int) - (getW bs at_).2.1 then
    (⟨((bs.drop (getW bs at_).2.1.toNat).take (getW bs at_).1.toNat).toArray⟩, (getW bs at_).2.1 + (getW bs at_).1, true) else (⟨#[]⟩, 0, false)

theorem getW_cases (bs : List UInt8) (at_ : Int) : (∃ m p : Nat, getW bs at_ = ((m : Int), (p : Int), true) ∧ p ≤ bs.length) ∨ getW bs at_ = (0, 0, false) := by
  by_cases h : at_ < 0 ∨ (bs.length : Int) - 2 < at_
  · exact .inr (getW_out bs at_ h)
  · obtain ⟨k, rfl⟩ := Int.eq_ofNat_of_zero_le (show 0 ≤ at_ from by omega)
    exact .inl ⟨_, k + 2, getW_in bs k (by omega), by omega⟩

/-- One of the eight steps: twice the sum, and if that is above 65535, Xor 69665. -/
def sumStep (x : Nat) : Nat := if 65535 < x * 2 then (x * 2) ^^^ 69665 else x * 2
def sumSteps (x : Nat) : Nat → Nat
  | 0 => x
  | k + 1 => sumStep (sumSteps x k)
def sumByte (x c : Nat) : Nat := sumSteps (x ^^^ c * 256) 8
def sumOf (bs : List UInt8) : Nat := bs.foldl (fun x b => sumByte x b.toNat) 65535

theorem high_bit {y i : Nat} (h1 : 65536 ≤ y) (h2 : y < 131072) (hi : 16 ≤ i) : y.testBit i = decide (i = 16) := by
  by_cases h : i = 16
  · subst h
    rw [Nat.testBit_eq_decide_div_mod_eq]
    simp; omega
  · have : y < 2 ^ i := Nat.lt_of_lt_of_le (show y < 2 ^ 17 by omega) (Nat.pow_le_pow_right (by omega) (by omega))
    rw [Nat.testBit_lt_two_pow this]; simp [h]
theorem xor_high {y : Nat} (h1 : 65536 ≤ y) (h2 : y < 131072) : y ^^^ 69665 < 65536 := by
  apply Nat.lt_pow_two_of_testBit (n := 16)
  intro i hi
  rw [Nat.testBit_xor, high_bit h1 h2 hi, high_bit (by omega) (by omega) hi]
  simp
theorem sumStep_lt {x : Nat} (h : x < 65536) : sumStep x < 65536 := by
  unfold sumStep; split
  · exact xor_high (by omega) (by omega)
  · omega
theorem sumSteps_lt {x : Nat} (h : x < 65536) (k : Nat) : sumSteps x k < 65536 := by
  induction k with
  | zero => exact h
  | succ k ih => exact sumStep_lt ih
theorem xor_lt {x c : Nat} (h : x < 65536) (hc : c < 256) : x ^^^ c * 256 < 65536 := Nat.xor_lt_two_pow (n := 16) (by omega) (by omega)
theorem sumByte_lt {x c : Nat} (h : x < 65536) (hc : c < 256) : sumByte x c < 65536 := sumSteps_lt (xor_lt h hc) 8
theorem foldl_lt (bs : List UInt8) : ∀ x, x < 65536 → bs.foldl (fun x b => sumByte x b.toNat) x < 65536 := by
  induction bs with
  | nil => intro x h; exact h
  | cons b r ih =>
    intro x h
    have hb : b.toNat < 256 := b.toNat_lt
    have h2 := sumByte_lt h hb
    rw [List.foldl_cons]
    exact ih (sumByte x b.toNat) h2
theorem sumOf_lt (bs : List UInt8) : sumOf bs < 65536 := by
  unfold sumOf; exact foldl_lt bs 65535 (by omega)
theorem sumOf_snoc (bs : List UInt8) (b : UInt8) : sumOf (bs ++ [b]) = sumByte (sumOf bs) b.toNat := by simp [sumOf]
theorem sumOf_take (bs : List UInt8) (k : Nat) (h : k < bs.length) : sumOf (bs.take (k + 1)) = sumByte (sumOf (bs.take k)) (bs.getD k 0).toNat := by
  rw [List.take_succ_eq_append_getElem h, sumOf_snoc]
  simp [List.getD, List.getElem?_eq_getElem h]

theorem step_hi {y : Nat} (hy : y < 65536) (h : (65535 : Int) < (y : Int) * 2) : bits .xor .i64 ((y : Int) * 2) 69665 = ((sumStep y : Nat) : Int) := by
  have e : (y : Int) * 2 = ((y * 2 : Nat) : Int) := by omega
  have e2 : (69665 : Int) = ((69665 : Nat) : Int) := rfl
  rw [e, e2, i64_xor _ _ (by omega) (by omega)]
  unfold sumStep; rw [if_pos (by omega)]
theorem step_lo {y : Nat} (h : ¬ (65535 : Int) < (y : Int) * 2) : (y : Int) * 2 = ((sumStep y : Nat) : Int) := by
  unfold sumStep; rw [if_neg (by omega)]; omega
theorem mask_word {y : Nat} (hy : y < 65536) : bits .and .i64 (y : Int) 65535 = (y : Int) := by
  have e2 : (65535 : Int) = ((65535 : Nat) : Int) := rfl
  rw [e2, i64_and _ _ (by omega) (by omega), show (65535 : Nat) = 2 ^ 16 - 1 from rfl, Nat.and_two_pow_sub_one_eq_mod, Nat.mod_eq_of_lt (by omega)]

theorem wrap_twice {y : Nat} (hy : y < 65536) : wrap64 ((y : Int) * 2) = (y : Int) * 2 := wrap64_in (by omega) (by omega)
theorem step_hi' {y : Nat} (hy : y < 65536) (h : (65535 : Int) < wrap64 ((y : Int) * 2)) : bits .xor .i64 (wrap64 ((y : Int) * 2)) 69665 = ((sumStep y : Nat) : Int) := by
  rw [wrap_twice hy] at h ⊢; exact step_hi hy h
theorem step_lo' {y : Nat} (hy : y < 65536) (h : wrap64 ((y : Int) * 2) ≤ 65535) : wrap64 ((y : Int) * 2) = ((sumStep y : Nat) : Int) := by
  rw [wrap_twice hy] at h ⊢; exact step_lo (by omega)

theorem spec_in {y x : Nat} (hy : y < 65536) (hx : x < 256) : bits .xor .i64 (y : Int) (wrap64 ((x : Int) * 256)) = ((y ^^^ x * 256 : Nat) : Int) := by
  have e : (x : Int) * 256 = ((x * 256 : Nat) : Int) := by omega
  rw [wrap64_in (by omega) (by omega), e, i64_xor _ _ (by omega) (by omega)]

end Go.Proofs.YtlididoalekeoaaGreatDoor
