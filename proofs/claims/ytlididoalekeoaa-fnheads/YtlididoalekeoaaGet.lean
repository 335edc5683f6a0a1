/- Contracts of GetW, in the specification and in the program. -/
import Derived.Test.YtlididoalekeoaaBase
import Derived.Test.YtlididoalekeoaaCommon
import Derived.Test.YtlididoalekeoaaPlain
namespace Go.Proofs.Ytlididoalekeoaa
set_option maxRecDepth 4000
open Go.RowKit

set_option maxHeartbeats 400000 in
theorem implGetW_in (b off len cap k : Nat) (x y : UInt8) (w : World) (hl : len ≤ 1073741824) (hk : k + 2 ≤ len)
    (h1 : w.cell? ⟨b, off + k, none⟩ = some (.int .u8 (x.toNat : Int))) (h2 : w.cell? ⟨b, off + (k + 1), none⟩ = some (.int .u8 (y.toNat : Int))) :
    Calls Try.prog 57 #[.slice (some ⟨b, off, none⟩) len cap, .int .i64 k] w fun e w' => e = .returned (.tuple #[.int .i64 (wordOf x y : Int), .int .i64 ((k + 2 : Nat) : Int), .bool true]) ∧ ∃ n, w' = w.drewN n := by
  have k0 : ¬ (k : Int) < 0 := by omega
  have k1 : ¬ ((len : Int) - 2 < (k : Int)) := by omega
  have k2 : (k : Int) < (len : Int) := by omega
  have k3 : (k : Int) + 1 < (len : Int) := by omega
  go_enter Try.func57, Try.ntmps57
  go_wp2_with fail
  go_quiet (fail)
  go_wp2
  go_ret3
  exact ⟨ret3_int (word_bits x y) (by omega) rfl, _, rfl⟩

set_option maxHeartbeats 400000 in
theorem implGetW_out (ao : Option Addr) (len cap : Nat) (at_ : Int) (w : World) (hl : len ≤ 1073741824) (hk : at_ < 0 ∨ (len : Int) - 2 < at_) :
    Calls Try.prog 57 #[.slice ao len cap, .int .i64 at_] w fun e w' => e = .returned (.tuple #[.int .i64 0, .int .i64 0, .bool false]) ∧ ∃ n, w' = w.drewN n := by
  by_cases h0 : at_ < 0
  · go_enter Try.func57, Try.ntmps57
    go_wp2
    go_ret3
    exact ⟨rfl, 0, rfl⟩
  · have h1 : (len : Int) - 2 < at_ := by omega
    clear hk
    go_enter Try.func57, Try.ntmps57
    go_wp2
    go_ret3
    exact ⟨rfl, 0, rfl⟩

set_option maxHeartbeats 400000 in
theorem specGetW_in (b off len cap k : Nat) (x y : UInt8) (w : World) (hl : len ≤ 1073741824) (hk : k + 2 ≤ len)
    (h1 : w.cell? ⟨b, off + k, none⟩ = some (.int .u8 (x.toNat : Int))) (h2 : w.cell? ⟨b, off + (k + 1), none⟩ = some (.int .u8 (y.toNat : Int))) :
    Calls Try.prog 56 #[.slice (some ⟨b, off, none⟩) len cap, .int .i64 k] w fun e w' => e = .returned (.tuple #[.int .i64 (wordOf x y : Int), .int .i64 ((k + 2 : Nat) : Int), .bool true]) ∧ ∃ n, w' = w.drewN n := by
  have k2 : (k : Int) < (len : Int) := by omega
  have k3 : (k : Int) + 1 < (len : Int) := by omega
  have hin : inB (k : Int) 0 ((len : Int) - 2) = true := in_t (by omega)
  go_enter Try.func56, Try.ntmps56
  go_wp2_with (go_at_call 48; refine (l1In_any _ _ _ _).mono ?_; rintro e w' ⟨rfl, rfl⟩)
  go_quiet (fail)
  go_wp2
  go_ret3
  exact ⟨ret3_int (word_bits x y) (by omega) rfl, _, rfl⟩

set_option maxHeartbeats 400000 in
theorem specGetW_out (ao : Option Addr) (len cap : Nat) (at_ : Int) (w : World) (hl : len ≤ 1073741824) (hk : at_ < 0 ∨ (len : Int) - 2 < at_) :
    Calls Try.prog 56 #[.slice ao len cap, .int .i64 at_] w fun e w' => e = .returned (.tuple #[.int .i64 0, .int .i64 0, .bool false]) ∧ ∃ n, w' = w.drewN n := by
  have hin : inB at_ 0 ((len : Int) - 2) = false := in_f (by omega)
  clear hk
  go_enter Try.func56, Try.ntmps56
  go_wp2_with (go_at_call 48; refine (l1In_any _ _ _ _).mono ?_; rintro e w' ⟨rfl, rfl⟩)
  go_ret3
  exact ⟨rfl, 0, rfl⟩

/-- What GetW answers: of the bytes bs at a place. -/
def getW (bs : List UInt8) (at_ : Int) : Int × Int × Bool :=
  if 0 ≤ at_ ∧ at_ ≤ (bs.length : Int) - 2 then ((wordOf (bs.getD at_.toNat 0) (bs.getD (at_.toNat + 1) 0) : Int), at_ + 2, true) else (0, 0, false)

theorem getW_in (bs : List UInt8) (k : Nat) (h : k + 2 ≤ bs.length) : getW bs (k : Int) = ((wordOf (bs.getD k 0) (bs.getD (k + 1) 0) : Int), ((k + 2 : Nat) : Int), true) := by
  unfold getW; rw [if_pos (by omega)]; simp
theorem getW_out (bs : List UInt8) (at_ : Int) (h : at_ < 0 ∨ (bs.length : Int) - 2 < at_) : getW bs at_ = (0, 0, false) := by
  unfold getW; rw [if_neg (by omega)]

theorem implGetW_any (ao : Option Addr) (len cap : Nat) (bs : List UInt8) (at_ : Int) (w : World) (hr : Reads w ao len bs) (hl : len ≤ 1073741824) :
    Calls Try.prog 57 #[.slice ao len cap, .int .i64 at_] w fun e w' => e = .returned (.tuple #[.int .i64 (getW bs at_).1, .int .i64 (getW bs at_).2.1, .bool (getW bs at_).2.2]) ∧ ∃ n, w' = w.drewN n := by
  by_cases h : at_ < 0 ∨ (len : Int) - 2 < at_
  · rw [getW_out bs at_ (by rw [hr.1]; exact h)]
    exact implGetW_out ao len cap at_ w hl h
  · obtain ⟨hn, h0 | ⟨b, off, rfl, hc⟩⟩ := hr
    · omega
    · obtain ⟨k, rfl⟩ := Int.eq_ofNat_of_zero_le (show 0 ≤ at_ from by omega)
      rw [getW_in bs k (by omega)]
      exact implGetW_in b off len cap k _ _ w hl (by omega) (hc k (by omega)) (hc (k + 1) (by omega))

theorem specGetW_any (ao : Option Addr) (len cap : Nat) (bs : List UInt8) (at_ : Int) (w : World) (hr : Reads w ao len bs) (hl : len ≤ 1073741824) :
    Calls Try.prog 56 #[.slice ao len cap, .int .i64 at_] w fun e w' => e = .returned (.tuple #[.int .i64 (getW bs at_).1, .int .i64 (getW bs at_).2.1, .bool (getW bs at_).2.2]) ∧ ∃ n, w' = w.drewN n := by
  by_cases h : at_ < 0 ∨ (len : Int) - 2 < at_
  · rw [getW_out bs at_ (by rw [hr.1]; exact h)]
    exact specGetW_out ao len cap at_ w hl h
  · obtain ⟨hn, h0 | ⟨b, off, rfl, hc⟩⟩ := hr
    · omega
    · obtain ⟨k, rfl⟩ := Int.eq_ofNat_of_zero_le (show 0 ≤ at_ from by omega)
      rw [getW_in bs k (by omega)]
      exact specGetW_in b off len cap k _ _ w hl (by omega) (hc k (by omega)) (hc (k + 1) (by omega))

end Go.Proofs.Ytlididoalekeoaa
