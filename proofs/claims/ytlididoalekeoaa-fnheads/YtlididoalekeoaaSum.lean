/- Contracts of Sum, in the specification and in the program. -/
import Derived.Test.YtlididoalekeoaaBase
import Derived.Test.YtlididoalekeoaaCommon
import Derived.Test.YtlididoalekeoaaPlain
namespace Go.Proofs.Ytlididoalekeoaa
set_option maxRecDepth 4000
open Go.RowKit

/-- One of the eight steps: twice the sum, and if that is above 65535, Xor 69665. -/
def sumStep (x : Nat) : Nat := if 65535 < x * 2 then (x * 2) ^^^ 69665 else x * 2
def sumSteps (x : Nat) : Nat → Nat
  | 0 => x
  | k + 1 => sumStep (sumSteps x k)
def sumByte (x c : Nat) : Nat := sumSteps (x ^^^ c * 256) 8
def sumOf (bs : List UInt8) : Nat := bs.foldl (fun x b => sumByte x b.toNat) 65535

theorem high_bit {y i : Nat} (h1 : 65536 ≤ y) (h2 : y < 131072) (hi : 16 ≤ i) : y.testBit i = decide (i = 16) := by
  by_cases h : i = 16
  · subst h
    rw [Nat.testBit_eq_decide_div_mod_eq]
    simp; omega
  · have : y < 2 ^ i := Nat.lt_of_lt_of_le (show y < 2 ^ 17 by omega) (Nat.pow_le_pow_right (by omega) (by omega))
    rw [Nat.testBit_lt_two_pow this]; simp [h]
theorem xor_high {y : Nat} (h1 : 65536 ≤ y) (h2 : y < 131072) : y ^^^ 69665 < 65536 := by
  apply Nat.lt_pow_two_of_testBit (n := 16)
  intro i hi
  rw [Nat.testBit_xor, high_bit h1 h2 hi, high_bit (by omega) (by omega) hi]
  simp
theorem sumStep_lt {x : Nat} (h : x < 65536) : sumStep x < 65536 := by
  unfold sumStep; split
  · exact xor_high (by omega) (by omega)
  · omega
theorem sumSteps_lt {x : Nat} (h : x < 65536) (k : Nat) : sumSteps x k < 65536 := by
  induction k with
  | zero => exact h
  | succ k ih => exact sumStep_lt ih
theorem xor_lt {x c : Nat} (h : x < 65536) (hc : c < 256) : x ^^^ c * 256 < 65536 := Nat.xor_lt_two_pow (n := 16) (by omega) (by omega)
theorem sumByte_lt {x c : Nat} (h : x < 65536) (hc : c < 256) : sumByte x c < 65536 := sumSteps_lt (xor_lt h hc) 8
theorem foldl_lt (bs : List UInt8) : ∀ x, x < 65536 → bs.foldl (fun x b => sumByte x b.toNat) x < 65536 := by
  induction bs with
  | nil => intro x h; exact h
  | cons b r ih =>
    intro x h
    have hb : b.toNat < 256 := b.toNat_lt
    have h2 := sumByte_lt h hb
    rw [List.foldl_cons]
    exact ih (sumByte x b.toNat) h2
theorem sumOf_lt (bs : List UInt8) : sumOf bs < 65536 := by
  unfold sumOf; exact foldl_lt bs 65535 (by omega)
theorem sumOf_snoc (bs : List UInt8) (b : UInt8) : sumOf (bs ++ [b]) = sumByte (sumOf bs) b.toNat := by simp [sumOf]
theorem sumOf_take (bs : List UInt8) (k : Nat) (h : k < bs.length) : sumOf (bs.take (k + 1)) = sumByte (sumOf (bs.take k)) (bs.getD k 0).toNat := by
  rw [List.take_succ_eq_append_getElem h, sumOf_snoc]
  simp [List.getD, List.getElem?_eq_getElem h]

theorem step_hi {y : Nat} (hy : y < 65536) (h : (65535 : Int) < (y : Int) * 2) : bits .xor .i64 ((y : Int) * 2) 69665 = ((sumStep y : Nat) : Int) := by
  have e : (y : Int) * 2 = ((y * 2 : Nat) : Int) := by omega
  have e2 : (69665 : Int) = ((69665 : Nat) : Int) := rfl
  rw [e, e2, i64_xor _ _ (by omega) (by omega)]
  unfold sumStep; rw [if_pos (by omega)]
theorem step_lo {y : Nat} (h : ¬ (65535 : Int) < (y : Int) * 2) : (y : Int) * 2 = ((sumStep y : Nat) : Int) := by
  unfold sumStep; rw [if_neg (by omega)]; omega
theorem mask_word {y : Nat} (hy : y < 65536) : bits .and .i64 (y : Int) 65535 = (y : Int) := by
  have e2 : (65535 : Int) = ((65535 : Nat) : Int) := rfl
  rw [e2, i64_and _ _ (by omega) (by omega), show (65535 : Nat) = 2 ^ 16 - 1 from rfl, Nat.and_two_pow_sub_one_eq_mod, Nat.mod_eq_of_lt (by omega)]

theorem wrap_twice {y : Nat} (hy : y < 65536) : wrap64 ((y : Int) * 2) = (y : Int) * 2 := wrap64_in (by omega) (by omega)
theorem step_hi' {y : Nat} (hy : y < 65536) (h : (65535 : Int) < wrap64 ((y : Int) * 2)) : bits .xor .i64 (wrap64 ((y : Int) * 2)) 69665 = ((sumStep y : Nat) : Int) := by
  rw [wrap_twice hy] at h ⊢; exact step_hi hy h
theorem step_lo' {y : Nat} (hy : y < 65536) (h : wrap64 ((y : Int) * 2) ≤ 65535) : wrap64 ((y : Int) * 2) = ((sumStep y : Nat) : Int) := by
  rw [wrap_twice hy] at h ⊢; exact step_lo (by omega)

set_option maxHeartbeats 400000 in
theorem implSumByte_any (x c : Nat) (w : World) (hx : x < 65536) (hc : c < 256) :
    Calls Try.prog 90 #[.int .i64 x, .int .i64 c] w fun e w' => e = .returned (.int .i64 ((sumByte x c : Nat) : Int)) ∧ w' = w := by
  have hs : bits .xor .i64 (x : Int) (wrap64 (256 * (c : Int))) = ((x ^^^ c * 256 : Nat) : Int) := by
    have e : 256 * (c : Int) = ((c * 256 : Nat) : Int) := by omega
    rw [wrap64_in (by omega) (by omega), e, i64_xor _ _ (by omega) (by omega)]
  have hlt : Hd (x ^^^ c * 256 < 65536) := ⟨xor_lt hx hc⟩
  have Hfin : Hd (sumSteps (x ^^^ c * 256) 8 = sumByte x c) := ⟨rfl⟩
  clear hx hc
  generalize x ^^^ c * 256 = z at *
  go_enter Try.func90, Try.ntmps90
  go_wp2_with fail
  go_loop [0, 9] (fun s i => ∃ k : Nat, k ≤ 8 ∧ i = .int .i64 k ∧ s = .int .i64 ((sumSteps z k : Nat) : Int)) (fun _ i => 8 - (intOf i).toNat)
  case atStart => exact ⟨0, by omega, rfl, rfl⟩
  case round =>
    obtain ⟨k, hk, rfl, rfl⟩ := hrel
    have hy : Hd (sumSteps z k < 65536) := ⟨sumSteps_lt hlt.out k⟩
    have hz : Hd (sumStep (sumSteps z k) = sumSteps z (k + 1)) := ⟨rfl⟩
    by_cases hlt8 : k < 8
    · generalize sumSteps z k = y at *
      go_wp2_with fail
      · go_round
        case rel => exact ⟨k + 1, by omega, by go_num, by rw [step_hi' hy.out (by assumption), hz.out]⟩
        case measure => simp [intOf]; omega
      · go_round
        case rel => exact ⟨k + 1, by omega, by go_num, by rw [step_lo' hy.out (by assumption), hz.out]⟩
        case measure => simp [intOf]; omega
    · have hf : Hd (sumSteps z k = sumByte x c) := ⟨by rw [show k = 8 from by omega]; exact Hfin.out⟩
      go_wp2
      go_ret
      exact ⟨ret_int (by rw [hf.out]), rfl⟩


set_option maxHeartbeats 400000 in
theorem implSum_some (b off len cap : Nat) (bs : List UInt8) (w : World) (hn : bs.length = len) (hc : ∀ j, j < len → w.cell? ⟨b, off + j, none⟩ = some (.int .u8 ((bs.getD j 0).toNat : Int))) (hl : len ≤ 1073741824) :
    Calls Try.prog 55 #[.slice (some ⟨b, off, none⟩) len cap] w fun e w' => e = .returned (.int .i64 ((sumOf bs : Nat) : Int)) ∧ w' = w := by
  have hn' : Hd (bs.length = len) := ⟨hn⟩
  have hc' : Hd (∀ j, j < len → w.cell? ⟨b, off + j, none⟩ = some (.int .u8 ((bs.getD j 0).toNat : Int))) := ⟨hc⟩
  clear hn hc
  go_enter Try.func55, Try.ntmps55
  go_wp2_with fail
  go_loop [3, 8] (fun s i => ∃ k : Nat, k ≤ len ∧ i = .int .i64 k ∧ s = .int .i64 ((sumOf (bs.take k) : Nat) : Int)) (fun _ i => len - (intOf i).toNat)
  case atStart => exact ⟨0, Nat.zero_le _, rfl, rfl⟩
  case round =>
    obtain ⟨k, hk, rfl, rfl⟩ := hrel
    by_cases hlt : k < len
    · have hcell := hc'.out k hlt
      have hs : Hd (sumOf (bs.take (k + 1)) = sumByte (sumOf (bs.take k)) (bs.getD k 0).toNat) := ⟨sumOf_take bs k (by rw [hn'.out]; exact hlt)⟩
      have hy : Hd (sumOf (bs.take k) < 65536) := ⟨sumOf_lt _⟩
      have hx : Hd ((bs.getD k 0).toNat < 256) := ⟨(bs.getD k 0).toNat_lt⟩
      have hxw := cast_byte hx.out
      generalize (bs.getD k 0).toNat = x at *
      generalize sumOf (bs.take k) = y at *
      go_wp2_with fail
      refine (implSumByte_any y x _ hy.out hx.out).mono ?_
      rintro e w1 ⟨rfl, hw⟩
      subst hw
      go_wp2_with fail
      go_round
      case rel => exact ⟨k + 1, by omega, by go_num, by rw [hs.out]⟩
      case measure => simp [intOf]; omega
    · have hf : Hd (sumOf (bs.take k) = sumOf bs) := ⟨by rw [List.take_of_length_le (by rw [hn'.out]; omega)]⟩
      have hm : Hd (bits .and .i64 ((sumOf (bs.take k) : Nat) : Int) 65535 = ((sumOf (bs.take k) : Nat) : Int)) := ⟨mask_word (sumOf_lt _)⟩
      go_wp2_with fail
      go_ret
      exact ⟨ret_int (hm.out.trans (by rw [hf.out])), rfl⟩

set_option maxHeartbeats 400000 in
theorem implSum_none (ao : Option Addr) (cap : Nat) (w : World) :
    Calls Try.prog 55 #[.slice ao 0 cap] w fun e w' => e = .returned (.int .i64 ((sumOf [] : Nat) : Int)) ∧ w' = w := by
  have hm : Hd (bits .and .i64 65535 65535 = ((sumOf [] : Nat) : Int)) := ⟨mask_word (y := 65535) (by omega)⟩
  go_enter Try.func55, Try.ntmps55
  go_wp2_with fail
  refine wp_loop_rounds 1 ?_
  rw [rounds_succ]
  go_wp2_with fail
  go_ret
  exact ⟨ret_int hm.out, rfl⟩

theorem implSum_any (ao : Option Addr) (len cap : Nat) (bs : List UInt8) (w : World) (hr : Reads w ao len bs) (hl : len ≤ 1073741824) :
    Calls Try.prog 55 #[.slice ao len cap] w fun e w' => e = .returned (.int .i64 ((sumOf bs : Nat) : Int)) ∧ w' = w := by
  obtain ⟨hn, h0 | ⟨b, off, rfl, hc⟩⟩ := hr
  · subst h0
    obtain rfl : bs = [] := List.eq_nil_of_length_eq_zero hn
    exact implSum_none ao cap w
  · exact implSum_some b off len cap bs w hn hc hl

theorem spec_in {y x : Nat} (hy : y < 65536) (hx : x < 256) : bits .xor .i64 (y : Int) (wrap64 ((x : Int) * 256)) = ((y ^^^ x * 256 : Nat) : Int) := by
  have e : (x : Int) * 256 = ((x * 256 : Nat) : Int) := by omega
  rw [wrap64_in (by omega) (by omega), e, i64_xor _ _ (by omega) (by omega)]

set_option maxHeartbeats 400000 in
theorem specSum_some (b off len cap : Nat) (bs : List UInt8) (w : World) (hn : bs.length = len) (hc : ∀ j, j < len → w.cell? ⟨b, off + j, none⟩ = some (.int .u8 ((bs.getD j 0).toNat : Int))) (hl : len ≤ 1073741824) :
    Calls Try.prog 50 #[.slice (some ⟨b, off, none⟩) len cap] w fun e w' => e = .returned (.int .i64 ((sumOf bs : Nat) : Int)) ∧ w' = w := by
  have hn' : Hd (bs.length = len) := ⟨hn⟩
  have hc' : Hd (∀ j, j < len → w.cell? ⟨b, off + j, none⟩ = some (.int .u8 ((bs.getD j 0).toNat : Int))) := ⟨hc⟩
  clear hn hc
  go_enter Try.func50, Try.ntmps50
  go_wp2_with fail
  go_loop [3, 4] (fun s i => ∃ k : Nat, k ≤ len ∧ i = .int .i64 k ∧ s = .int .i64 ((sumOf (bs.take k) : Nat) : Int)) (fun _ i => len - (intOf i).toNat)
  case atStart => exact ⟨0, Nat.zero_le _, rfl, rfl⟩
  case round =>
    obtain ⟨k, hk, rfl, rfl⟩ := hrel
    by_cases hlt : k < len
    · have hcell := hc'.out k hlt
      have hs : Hd (sumOf (bs.take (k + 1)) = sumByte (sumOf (bs.take k)) (bs.getD k 0).toNat) := ⟨sumOf_take bs k (by rw [hn'.out]; exact hlt)⟩
      have hy : Hd (sumOf (bs.take k) < 65536) := ⟨sumOf_lt _⟩
      have hx : Hd ((bs.getD k 0).toNat < 256) := ⟨(bs.getD k 0).toNat_lt⟩
      have hxw := cast_byte hx.out
      generalize (bs.getD k 0).toNat = x at *
      generalize sumOf (bs.take k) = y at *
      have hin := spec_in hy.out hx.out
      have hzl : Hd (y ^^^ x * 256 < 65536) := ⟨xor_lt hy.out hx.out⟩
      have hfin : Hd (sumSteps (y ^^^ x * 256) 8 = sumOf (bs.take (k + 1))) := ⟨by rw [hs.out]; rfl⟩
      clear hs
      generalize y ^^^ x * 256 = z at *
      go_wp2_with fail
      go_loop [3, 5] (fun s i => ∃ j : Nat, j ≤ 8 ∧ i = .int .i64 j ∧ s = .int .i64 ((sumSteps z j : Nat) : Int)) (fun _ i => 8 - (intOf i).toNat)
      case atStart => exact ⟨0, by omega, rfl, rfl⟩
      case round =>
        obtain ⟨j, hj, rfl, rfl⟩ := hrel
        have hq : Hd (sumSteps z j < 65536) := ⟨sumSteps_lt hzl.out j⟩
        have hz : Hd (sumStep (sumSteps z j) = sumSteps z (j + 1)) := ⟨rfl⟩
        by_cases hlt8 : j < 8
        · generalize sumSteps z j = q at *
          go_wp2_with fail
          · go_round
            case rel => exact ⟨j + 1, by omega, by go_num, by rw [step_hi' hq.out (by assumption), hz.out]⟩
            case measure => simp [intOf]; omega
          · go_round
            case rel => exact ⟨j + 1, by omega, by go_num, by rw [step_lo' hq.out (by assumption), hz.out]⟩
            case measure => simp [intOf]; omega
        · have hf : Hd (sumSteps z j = sumOf (bs.take (k + 1))) := ⟨by rw [show j = 8 from by omega]; exact hfin.out⟩
          go_wp2_with fail
          go_round
          case rel => exact ⟨k + 1, by omega, by go_num, by rw [hf.out]⟩
          case measure => simp [intOf]; omega
    · have hf : Hd (sumOf (bs.take k) = sumOf bs) := ⟨by rw [List.take_of_length_le (by rw [hn'.out]; omega)]⟩
      have hm : Hd (bits .and .i64 ((sumOf (bs.take k) : Nat) : Int) 65535 = ((sumOf (bs.take k) : Nat) : Int)) := ⟨mask_word (sumOf_lt _)⟩
      go_wp2_with fail
      go_ret
      exact ⟨ret_int (hm.out.trans (by rw [hf.out])), rfl⟩

set_option maxHeartbeats 400000 in
theorem specSum_none (ao : Option Addr) (cap : Nat) (w : World) :
    Calls Try.prog 50 #[.slice ao 0 cap] w fun e w' => e = .returned (.int .i64 ((sumOf [] : Nat) : Int)) ∧ w' = w := by
  have hm : Hd (bits .and .i64 65535 65535 = ((sumOf [] : Nat) : Int)) := ⟨mask_word (y := 65535) (by omega)⟩
  go_enter Try.func50, Try.ntmps50
  go_wp2_with fail
  refine wp_loop_rounds 1 ?_
  rw [rounds_succ]
  go_wp2_with fail
  go_ret
  exact ⟨ret_int hm.out, rfl⟩

theorem specSum_any (ao : Option Addr) (len cap : Nat) (bs : List UInt8) (w : World) (hr : Reads w ao len bs) (hl : len ≤ 1073741824) :
    Calls Try.prog 50 #[.slice ao len cap] w fun e w' => e = .returned (.int .i64 ((sumOf bs : Nat) : Int)) ∧ w' = w := by
  obtain ⟨hn, h0 | ⟨b, off, rfl, hc⟩⟩ := hr
  · subst h0
    obtain rfl : bs = [] := List.eq_nil_of_length_eq_zero hn
    exact specSum_none ao cap w
  · exact specSum_some b off len cap bs w hn hc hl

end Go.Proofs.Ytlididoalekeoaa
