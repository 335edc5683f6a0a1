/- What a range over a text reads is the sign that stands there. -/
import Derived.Test.YtpafjehphajbhaaGreatDoorUni
import Derived.Lib.Strings
namespace Go.Proofs.YtpafjehphajbhaaGreatDoor
set_option maxRecDepth 4000
open Go.RowKit

theorem get_gv (s : ByteArray) (pos k : Nat) : (s.get! (pos + k)).toNat = gv (s.data.toList.drop pos) k := by
  have e : s.get! (pos + k) = (s.data.toList.drop pos).getD k 0 := by
    simp [ByteArray.get!, List.getD]
    rw [getElem!_def]
    cases s.data[pos + k]? <;> rfl
  rw [e]; rfl
theorem len_drop (s : ByteArray) (pos : Nat) : (s.data.toList.drop pos).length = s.size - pos := by rw [List.length_drop, Array.length_toList]; rfl

/-- What is read at the head of t. -/
def decT (t : List UInt8) : Nat × Nat :=
  let cont (k : Nat) : Bool := decide (k < t.length) && gv t k / 64 == 2
  let b0 := gv t 0
  if b0 < 0x80 then (b0, 1)
  else if b0 / 32 == 6 && cont 1 then
    let c := (b0 % 32) * 64 + gv t 1 % 64
    if c ≥ 0x80 then (c, 2) else (Utf8.runeError, 1)
  else if b0 / 16 == 14 && cont 1 && cont 2 then
    let c := (b0 % 16) * 4096 + (gv t 1 % 64) * 64 + gv t 2 % 64
    if c ≥ 0x800 && Utf8.valid c then (c, 3) else (Utf8.runeError, 1)
  else if b0 / 8 == 30 && cont 1 && cont 2 && cont 3 then
    let c := (b0 % 8) * 262144 + (gv t 1 % 64) * 4096 + (gv t 2 % 64) * 64 + gv t 3 % 64
    if c ≥ 0x10000 && Utf8.valid c then (c, 4) else (Utf8.runeError, 1)
  else (Utf8.runeError, 1)

theorem decode_decT (s : ByteArray) (pos : Nat) : Utf8.decode s pos = decT (s.data.toList.drop pos) := by
  have hk : ∀ k, decide (pos + k < s.size) = decide (k < (s.data.toList.drop pos).length) := by
    intro k
    rw [len_drop]
    congr 1
    apply propext
    omega
  simp only [Utf8.decode, decT, get_gv, hk]

theorem valid_sign (c : Nat) (h : isSign (c : Int)) : Utf8.valid (c : Int) = true := by
  unfold Utf8.valid isSign at *
  simp; omega
theorem sign_valid (c : Nat) (h : Utf8.valid (c : Int) = true) : isSign (c : Int) := by
  unfold Utf8.valid isSign at *
  simp at h; omega

theorem decT_got {t : List UInt8} {n : Int} (h : Got t n) : decT t = (n.toNat, (signB n).length) := by
  obtain ⟨hs, r, rfl⟩ := h
  have h0 : 0 ≤ n := by rcases hs with h | h <;> omega
  obtain ⟨m, rfl⟩ := Int.eq_ofNat_of_zero_le h0
  have hm : m < 1114112 := by rcases hs with h | h <;> omega
  rw [Int.toNat_natCast]
  by_cases h1 : m < 128
  · rw [signB_one h1]
    have e0 : gv ([bt m] ++ r) 0 = m := by simp [gv]; exact bt_val _ (by omega)
    simp only [decT, e0]
    rw [if_pos h1]; rfl
  by_cases h2 : m < 2048
  · rw [signB_two (by omega) h2]
    obtain ⟨t, ht⟩ : ∃ t, t = [bt (192 + m / 64), bt (128 + m % 64)] ++ r := ⟨_, rfl⟩
    have e0 : gv t 0 = 192 + m / 64 := by rw [ht]; simp [gv]; exact bt_val _ (by omega)
    have e1 : gv t 1 = 128 + m % 64 := by rw [ht]; simp [gv]; exact bt_val _ (by omega)
    have l1 : decide (1 < t.length) = true := by rw [ht]; simp
    have hc : (192 + m / 64) % 32 * 64 + (128 + m % 64) % 64 = m := by omega
    rw [← ht]
    simp only [decT, e0, e1, l1, hc]
    rw [if_neg (by omega), if_pos (by simp; omega), if_pos (by omega)]
    simp
  by_cases h3 : m < 65536
  · rw [signB_three (by omega) h3 hs]
    obtain ⟨t, ht⟩ : ∃ t, t = [bt (224 + m / 4096), bt (128 + m / 64 % 64), bt (128 + m % 64)] ++ r := ⟨_, rfl⟩
    have e0 : gv t 0 = 224 + m / 4096 := by rw [ht]; simp [gv]; exact bt_val _ (by omega)
    have e1 : gv t 1 = 128 + m / 64 % 64 := by rw [ht]; simp [gv]; exact bt_val _ (by omega)
    have e2 : gv t 2 = 128 + m % 64 := by rw [ht]; simp [gv]; exact bt_val _ (by omega)
    have l1 : decide (1 < t.length) = true := by rw [ht]; simp
    have l2 : decide (2 < t.length) = true := by rw [ht]; simp
    have hc : (224 + m / 4096) % 16 * 4096 + (128 + m / 64 % 64) % 64 * 64 + (128 + m % 64) % 64 = m := by omega
    rw [← ht]
    simp only [decT, e0, e1, e2, l1, l2, hc, valid_sign m hs]
    rw [if_neg (by omega), if_neg (by simp; omega), if_pos (by simp; omega), if_pos (by simp; omega)]
    simp
  · rw [signB_four (by omega) hs]
    obtain ⟨t, ht⟩ : ∃ t, t = [bt (240 + m / 262144), bt (128 + m / 4096 % 64), bt (128 + m / 64 % 64), bt (128 + m % 64)] ++ r := ⟨_, rfl⟩
    have e0 : gv t 0 = 240 + m / 262144 := by rw [ht]; simp [gv]; exact bt_val _ (by omega)
    have e1 : gv t 1 = 128 + m / 4096 % 64 := by rw [ht]; simp [gv]; exact bt_val _ (by omega)
    have e2 : gv t 2 = 128 + m / 64 % 64 := by rw [ht]; simp [gv]; exact bt_val _ (by omega)
    have e3 : gv t 3 = 128 + m % 64 := by rw [ht]; simp [gv]; exact bt_val _ (by omega)
    have l1 : decide (1 < t.length) = true := by rw [ht]; simp
    have l2 : decide (2 < t.length) = true := by rw [ht]; simp
    have l3 : decide (3 < t.length) = true := by rw [ht]; simp
    have hc : (240 + m / 262144) % 8 * 262144 + (128 + m / 4096 % 64) % 64 * 4096 + (128 + m / 64 % 64) % 64 * 64 + (128 + m % 64) % 64 = m := by omega
    rw [← ht]
    simp only [decT, e0, e1, e2, e3, l1, l2, l3, hc, valid_sign m hs]
    rw [if_neg (by omega), if_neg (by simp; omega), if_neg (by simp; omega), if_pos (by simp; omega), if_pos (by simp; omega)]
    simp

theorem pre_one {t : List UInt8} {a : Nat} (h : 0 < t.length) (ha : gv t 0 = a) : [bt a] <+: t := by
  match t, h with
  | x :: r, _ => exact ⟨r, by rw [← ha]; simp [gv, bt]⟩
theorem pre_two {t : List UInt8} {a b : Nat} (h : 1 < t.length) (ha : gv t 0 = a) (hb : gv t 1 = b) : [bt a, bt b] <+: t := by
  match t, h with
  | x :: y :: r, _ => exact ⟨r, by rw [← ha, ← hb]; simp [gv, bt]⟩
theorem pre_three {t : List UInt8} {a b c : Nat} (h : 2 < t.length) (ha : gv t 0 = a) (hb : gv t 1 = b) (hc : gv t 2 = c) : [bt a, bt b, bt c] <+: t := by
  match t, h with
  | x :: y :: z :: r, _ => exact ⟨r, by rw [← ha, ← hb, ← hc]; simp [gv, bt]⟩
theorem pre_four {t : List UInt8} {a b c d : Nat} (h : 3 < t.length) (ha : gv t 0 = a) (hb : gv t 1 = b) (hc : gv t 2 = c) (hd : gv t 3 = d) : [bt a, bt b, bt c, bt d] <+: t := by
  match t, h with
  | x :: y :: z :: u :: r, _ => exact ⟨r, by rw [← ha, ← hb, ← hc, ← hd]; simp [gv, bt]⟩

theorem decT_not {t : List UInt8} (ht : 0 < t.length) (h : ¬ ∃ n, Got t n) : decT t = (65533, 1) := by
  have b0 := gv_lt t 0; have b1 := gv_lt t 1; have b2 := gv_lt t 2; have b3 := gv_lt t 3
  simp only [decT]
  by_cases h1 : gv t 0 < 128
  · exact absurd ⟨(gv t 0 : Int), Or.inl ⟨by omega, by omega⟩, by rw [signB_one h1]; exact pre_one ht rfl⟩ h
  rw [if_neg h1]
  by_cases h2 : (gv t 0 / 32 == 6 && (decide (1 < t.length) && gv t 1 / 64 == 2)) = true
  · rw [if_pos h2]
    simp at h2
    obtain ⟨q0, q1, q2⟩ := h2
    by_cases h3 : gv t 0 % 32 * 64 + gv t 1 % 64 ≥ 128
    · exact absurd ⟨((gv t 0 % 32 * 64 + gv t 1 % 64 : Nat) : Int), Or.inl ⟨by omega, by omega⟩, by rw [signB_two h3 (by omega)]; exact pre_two q1 (by omega) (by omega)⟩ h
    · rw [if_neg h3]; rfl
  rw [if_neg h2]
  by_cases h4 : (gv t 0 / 16 == 14 && (decide (1 < t.length) && gv t 1 / 64 == 2) && (decide (2 < t.length) && gv t 2 / 64 == 2)) = true
  · rw [if_pos h4]
    simp at h4
    obtain ⟨⟨q0, q1, q2⟩, q3, q4⟩ := h4
    by_cases h5 : (decide (gv t 0 % 16 * 4096 + gv t 1 % 64 * 64 + gv t 2 % 64 ≥ 2048) && Utf8.valid ((gv t 0 % 16 * 4096 + gv t 1 % 64 * 64 + gv t 2 % 64 : Nat) : Int)) = true
    · rw [Bool.and_eq_true] at h5
      have hs := sign_valid _ h5.2
      have h6 : gv t 0 % 16 * 4096 + gv t 1 % 64 * 64 + gv t 2 % 64 ≥ 2048 := by simpa using h5.1
      exact absurd ⟨_, hs, by rw [signB_three h6 (by omega) hs]; exact pre_three q3 (by omega) (by omega) (by omega)⟩ h
    · rw [if_neg h5]; rfl
  rw [if_neg h4]
  by_cases h7 : (gv t 0 / 8 == 30 && (decide (1 < t.length) && gv t 1 / 64 == 2) && (decide (2 < t.length) && gv t 2 / 64 == 2) && (decide (3 < t.length) && gv t 3 / 64 == 2)) = true
  · rw [if_pos h7]
    simp at h7
    obtain ⟨⟨⟨q0, q1, q2⟩, q3, q4⟩, q5, q6⟩ := h7
    by_cases h5 : (decide (gv t 0 % 8 * 262144 + gv t 1 % 64 * 4096 + gv t 2 % 64 * 64 + gv t 3 % 64 ≥ 65536) && Utf8.valid ((gv t 0 % 8 * 262144 + gv t 1 % 64 * 4096 + gv t 2 % 64 * 64 + gv t 3 % 64 : Nat) : Int)) = true
    · rw [Bool.and_eq_true] at h5
      have hs := sign_valid _ h5.2
      have h6 : gv t 0 % 8 * 262144 + gv t 1 % 64 * 4096 + gv t 2 % 64 * 64 + gv t 3 % 64 ≥ 65536 := by simpa using h5.1
      exact absurd ⟨_, hs, by rw [signB_four h6 hs]; exact pre_four q5 (by omega) (by omega) (by omega) (by omega)⟩ h
    · rw [if_neg h5]; rfl
  rw [if_neg h7]; rfl

theorem decode_got (s : ByteArray) (pos : Nat) {n : Int} (h : Got (s.data.toList.drop pos) n) : Utf8.decode s pos = (n.toNat, (signB n).length) := by rw [decode_decT, decT_got h]
theorem decode_not (s : ByteArray) (pos : Nat) (hp : pos < s.size) (h : ¬ ∃ n, Got (s.data.toList.drop pos) n) : Utf8.decode s pos = (65533, 1) := by
  rw [decode_decT, decT_not (by rw [len_drop]; omega) h]
theorem got_unread (t : List UInt8) : Got t 65533 ↔ [239, 191, 189] <+: t := by
  have e : signB 65533 = [239, 191, 189] := by decide
  constructor
  · intro h; have := h.2; rw [e] at this; exact this
  · intro h; exact ⟨Or.inr ⟨by omega, by omega⟩, by rw [e]; exact h⟩

end Go.Proofs.YtpafjehphajbhaaGreatDoor
