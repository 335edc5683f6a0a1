/- The walks of spec.NameOk and impl.NameOk: both answer nameOkB. -/
import Derived.Test.YtlididoalekeoaaGreatDoorPutA
namespace Go.Proofs.YtlididoalekeoaaGreatDoor
set_option maxRecDepth 4000
open Go.RowKit

def nmB (c : Int) : Bool := decide ((97 ≤ c ∧ c ≤ 122) ∨ (48 ≤ c ∧ c ≤ 57))
theorem nm_t {c : Int} (h : (97 ≤ c ∧ c ≤ 122) ∨ (48 ≤ c ∧ c ≤ 57)) : true = nmB c := (decide_eq_true h).symm
theorem nm_f {c : Int} (h : ¬((97 ≤ c ∧ c ≤ 122) ∨ (48 ≤ c ∧ c ≤ 57))) : false = nmB c := (decide_eq_false h).symm

set_option maxHeartbeats 400000 in
theorem nameByte_any (c : Nat) (w : World) : Calls Tryz.prog 79 #[.int .u8 c] w fun e w' => e = .returned (.bool (nmB c)) ∧ w' = w := by
  rcases (show (97 ≤ c ∧ c ≤ 122) ∨ (c < 48) ∨ (48 ≤ c ∧ c ≤ 57) ∨ (57 < c ∧ c < 97) ∨ (122 < c) from by omega) with h | h | h | h | h
  all_goals
    go_enter Tryz.func79, Tryz.ntmps79
    go_wp2
    go_ret
    exact ⟨ret_bool (by rw [Bool.eq_iff_iff]; simp [nmB]; omega), rfl⟩

def allTo (s : ByteArray) (k : Nat) : Prop := ∀ j, (h : j < s.size) → j < k → nmB (s[j].toNat : Int) = true
theorem allTo_succ {s : ByteArray} {k : Nat} (hk : k < s.size) (h : allTo s k) (hn : nmB (s[k].toNat : Int) = true) : allTo s (k + 1) := by
  intro j hj hlt
  rcases Nat.lt_succ_iff_lt_or_eq.1 hlt with h1 | rfl
  · exact h j hj h1
  · exact hn
def nameOkB (s : ByteArray) : Bool := s.data.toList.all (fun c => nmB (c.toNat : Int)) && decide (1 ≤ s.size) && decide (s.size ≤ 6)
theorem all_iff (s : ByteArray) : s.data.toList.all (fun c => nmB (c.toNat : Int)) = true ↔ allTo s s.size := by
  rw [List.all_eq_true]
  constructor
  · intro h j hj _
    exact h _ (List.getElem_mem (l := s.data.toList) (n := j) (by simpa using hj))
  · intro h c hc
    obtain ⟨j, hj, rfl⟩ := List.getElem_of_mem hc
    have hj' : j < s.size := by simpa using hj
    exact h j hj' hj'
theorem nameOk_of_all {s : ByteArray} (h : allTo s s.size) : nameOkB s = (decide (1 ≤ s.size) && decide (s.size ≤ 6)) := by
  unfold nameOkB; rw [(all_iff s).2 h]; simp
theorem nameOk_of_not {s : ByteArray} {k : Nat} (hk : k < s.size) (h : nmB (s[k].toNat : Int) = false) : nameOkB s = false := by
  have : s.data.toList.all (fun c => nmB (c.toNat : Int)) = false := by
    rw [Bool.eq_false_iff]; intro ha
    have := (all_iff s).1 ha k hk hk
    rw [h] at this; cases this
  unfold nameOkB; rw [this]; simp
theorem nameOk_of_len {s : ByteArray} (h : s.size < 1 ∨ 6 < s.size) : nameOkB s = false := by
  unfold nameOkB
  rw [Bool.eq_false_iff]; intro hh; simp at hh; omega

set_option maxHeartbeats 400000 in
theorem specNameOk_any (s : ByteArray) (w : World) (hs : s.size ≤ 1048576) :
    Calls Tryz.prog 48 #[.string s] w fun e w' => e = .returned (.bool (nameOkB s)) ∧ w' = w := by
  go_enter Tryz.func48, Tryz.ntmps48
  go_wp2_with fail
  go_loop [3] (fun i => ∃ k : Nat, k ≤ s.size ∧ i = .int .i64 k ∧ Hid (allTo s k)) (fun i => s.size - (intOf i).toNat)
  case atStart => exact ⟨0, Nat.zero_le _, rfl, fun j _ h => absurd h (by omega)⟩
  case round =>
    obtain ⟨k, hk, rfl, hall⟩ := hrel
    by_cases hlt : k < s.size
    · by_cases hA : inB (wrap64 (s[k].toNat : Int)) 97 122 = true
      · have hn : Hid (nmB (s[k].toNat : Int) = true) := by
          rw [wrap_byte] at hA
          have := of_decide_eq_true hA
          exact decide_eq_true (by omega)
        go_wp2_with (go_at_call 13; refine (l1In_any _ _ _ _).mono ?_; rintro e w' ⟨rfl, rfl⟩)
        go_round
        case rel => exact ⟨k + 1, by omega, by go_num, allTo_succ hlt hall hn.out⟩
        case measure => simp [intOf]; omega
      · rw [Bool.not_eq_true] at hA
        by_cases hB : inB (wrap64 (s[k].toNat : Int)) 48 57 = true
        · have hn : Hid (nmB (s[k].toNat : Int) = true) := by
            rw [wrap_byte] at hB
            have := of_decide_eq_true hB
            exact decide_eq_true (by omega)
          go_wp2_with (go_at_call 13; refine (l1In_any _ _ _ _).mono ?_; rintro e w' ⟨rfl, rfl⟩)
          go_round
          case rel => exact ⟨k + 1, by omega, by go_num, allTo_succ hlt hall hn.out⟩
          case measure => simp [intOf]; omega
        · rw [Bool.not_eq_true] at hB
          have hn : Hid (nmB (s[k].toNat : Int) = false) := by
            rw [wrap_byte] at hA hB
            have h1 := of_decide_eq_false hA
            have h2 := of_decide_eq_false hB
            exact decide_eq_false (by omega)
          go_wp2_with (go_at_call 13; refine (l1In_any _ _ _ _).mono ?_; rintro e w' ⟨rfl, rfl⟩)
          go_ret
          exact ⟨ret_bool (nameOk_of_not hlt hn.out).symm, rfl⟩
    · have hke : k = s.size := by omega
      have hfin : Hid (nameOkB s = inB (s.size : Int) 1 6) := by
        have h' : allTo s s.size := by rw [← hke]; exact hall.out
        have e := nameOk_of_all h'
        show _ = _
        rw [e, Bool.eq_iff_iff]; simp [inB]; omega
      clear hke
      go_wp2_with (go_at_call 13; refine (l1In_any _ _ _ _).mono ?_; rintro e w' ⟨rfl, rfl⟩)
      go_ret
      exact ⟨ret_bool hfin.out.symm, rfl⟩

set_option maxHeartbeats 400000 in
theorem implNameOk_any (s : ByteArray) (w : World) (hs : s.size ≤ 1048576) :
    Calls Tryz.prog 65 #[.string s] w fun e w' => e = .returned (.bool (nameOkB s)) ∧ w' = w := by
  by_cases h1 : s.size < 1
  · go_enter Tryz.func65, Tryz.ntmps65
    go_wp2
    go_ret
    exact ⟨ret_bool (nameOk_of_len (.inl h1)).symm, rfl⟩
  · by_cases h6 : 6 < s.size
    · go_enter Tryz.func65, Tryz.ntmps65
      go_wp2
      go_ret
      exact ⟨ret_bool (nameOk_of_len (.inr h6)).symm, rfl⟩
    · go_enter Tryz.func65, Tryz.ntmps65
      go_wp2_with fail
      go_loop [14] (fun i => ∃ k : Nat, k ≤ s.size ∧ i = .int .i64 k ∧ Hid (allTo s k)) (fun i => s.size - (intOf i).toNat)
      case atStart => exact ⟨0, Nat.zero_le _, rfl, fun j _ h => absurd h (by omega)⟩
      case round =>
        obtain ⟨k, hk, rfl, hall⟩ := hrel
        by_cases hlt : k < s.size
        · by_cases hA : nmB (s[k].toNat : Int) = true
          · go_wp2_with (go_at_call 79; refine (nameByte_any _ _).mono ?_; rintro e w' ⟨rfl, rfl⟩)
            go_round
            case rel => exact ⟨k + 1, by omega, by go_num, allTo_succ hlt hall hA⟩
            case measure => simp [intOf]; omega
          · rw [Bool.not_eq_true] at hA
            go_wp2_with (go_at_call 79; refine (nameByte_any _ _).mono ?_; rintro e w' ⟨rfl, rfl⟩)
            go_ret
            exact ⟨ret_bool (nameOk_of_not hlt hA).symm, rfl⟩
        · have hke : k = s.size := by omega
          have hfin : Hid (nameOkB s = true) := by
            have h' : allTo s s.size := by rw [← hke]; exact hall.out
            show _ = _
            rw [nameOk_of_all h']; simp; omega
          clear hke
          go_wp2
          go_ret
          exact ⟨ret_bool hfin.out.symm, rfl⟩

end Go.Proofs.YtlididoalekeoaaGreatDoor
