/- Plain facts by which FnSums stands: one byte turned turns the sum. -/
import Derived.Test.YtlididoalekeoaaSum
namespace Go.Proofs.Ytlididoalekeoaa
set_option maxRecDepth 4000
open Go.RowKit

theorem xor_cancel {a b c : Nat} (h : a ^^^ c = b ^^^ c) : a = b := by
  have h2 : (a ^^^ c) ^^^ c = (b ^^^ c) ^^^ c := by rw [h]
  rwa [Nat.xor_assoc, Nat.xor_self, Nat.xor_zero, Nat.xor_assoc, Nat.xor_self, Nat.xor_zero] at h2
theorem xor_cancel_left {a b c : Nat} (h : c ^^^ a = c ^^^ b) : a = b := by
  rw [Nat.xor_comm c a, Nat.xor_comm c b] at h; exact xor_cancel h
theorem twice_odd {x y : Nat} (h : x * 2 ^^^ 69665 = y * 2) : False := by
  have h1 : (x * 2 ^^^ 69665).testBit 0 = (y * 2).testBit 0 := by rw [h]
  rw [Nat.testBit_xor] at h1
  simp [Nat.testBit_zero] at h1
theorem sumStep_inj {x y : Nat} (h : sumStep x = sumStep y) : x = y := by
  unfold sumStep at h
  split at h
  · split at h
    · have := xor_cancel h; omega
    · exact (twice_odd h).elim
  · split at h
    · exact (twice_odd h.symm).elim
    · omega
theorem sumSteps_inj {x y : Nat} (k : Nat) (h : sumSteps x k = sumSteps y k) : x = y := by
  induction k with
  | zero => exact h
  | succ k ih => exact ih (sumStep_inj h)
theorem sumByte_inj {x y c : Nat} (h : sumByte x c = sumByte y c) : x = y := xor_cancel (sumSteps_inj 8 h)
theorem sumByte_turn {x c d : Nat} (h : sumByte x c = sumByte x d) : c = d := by
  have := xor_cancel_left (sumSteps_inj 8 h); omega
theorem fold_inj (r : List UInt8) : ∀ x y, r.foldl (fun x b => sumByte x b.toNat) x = r.foldl (fun x b => sumByte x b.toNat) y → x = y := by
  induction r with
  | nil => intro x y h; exact h
  | cons b r ih =>
    intro x y h
    rw [List.foldl_cons, List.foldl_cons] at h
    have h2 : sumByte x b.toNat = sumByte y b.toNat := ih _ _ h
    exact sumByte_inj h2
theorem sumOf_turn (bs : List UInt8) (k : Nat) (hk : k < bs.length) (v : UInt8) (hv : v ≠ bs[k]) : sumOf (bs.set k v) ≠ sumOf bs := by
  intro h
  have e1 : bs = bs.take k ++ bs[k] :: bs.drop (k + 1) := by simp
  have e2 : bs.set k v = bs.take k ++ v :: bs.drop (k + 1) := by rw [List.set_eq_take_append_cons_drop, if_pos hk]
  unfold sumOf at h
  rw [e2] at h
  have h' : (bs.take k ++ v :: bs.drop (k + 1)).foldl (fun x b => sumByte x b.toNat) 65535 = (bs.take k ++ bs[k] :: bs.drop (k + 1)).foldl (fun x b => sumByte x b.toNat) 65535 := by
    rw [← e1]; exact h
  rw [List.foldl_append, List.foldl_append, List.foldl_cons, List.foldl_cons] at h'
  have h2 := fold_inj _ _ _ h'
  have h3 : v.toNat = (bs[k]).toNat := sumByte_turn h2
  exact hv (UInt8.toNat_inj.1 h3)
theorem turned_byte (x : UInt8) (m : Nat) (h0 : 0 < m) (hm : m < 256) : UInt8.ofNat (x.toNat ^^^ m) ≠ x := by
  intro h
  have hx := x.toNat_lt
  have h1 := congrArg UInt8.toNat h
  have hlt : x.toNat ^^^ m < 256 := Nat.xor_lt_two_pow (n := 8) (by omega) (by omega)
  rw [UInt8.toNat_ofNat', Nat.mod_eq_of_lt (by omega)] at h1
  have h2 : x.toNat ^^^ m = x.toNat ^^^ 0 := by rw [Nat.xor_zero]; exact h1
  have := xor_cancel_left h2
  omega

end Go.Proofs.Ytlididoalekeoaa
