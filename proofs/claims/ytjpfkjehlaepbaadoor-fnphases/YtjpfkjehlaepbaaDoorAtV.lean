/- The contract of what the laws draw of the code at a place: which number it is. -/
import Derived.Test.YtjpfkjehlaepbaaDoorCommon
import Derived.Deep.RegionHeld3
import Derived.Deep.RegionWith
namespace Go.Proofs.YtjpfkjehlaepbaaDoor
set_option maxRecDepth 4000
open Go.RowKit

/-- The code's byte at a place, or a number of it. -/
def atV (bs : List UInt8) (i : Nat) : Nat := if i < bs.length then (bs.getD i 0).toNat else (i * 31 + bs.length * 7) % 256
theorem atV_lt (bs : List UInt8) (i : Nat) : atV bs i < 256 := by
  unfold atV; split
  · exact (bs.getD i 0).toNat_lt
  · exact Nat.mod_lt _ (by omega)

set_option maxHeartbeats 400000 in
theorem at_in (b off len cap : Nat) (y : UInt8) (i : Nat) (w : World) (hi : (i : Int) < (len : Int)) (hc : w.cell? ⟨b, off + i, none⟩ = some (.int .u8 (y.toNat : Int))) :
    Calls Tryd.prog 7 #[.slice (some ⟨b, off, none⟩) len cap, .int .i64 (i : Int)] w fun e w' => e = .returned (.int .i64 (y.toNat : Int)) ∧ w' = w := by
  have hx : Hd (y.toNat < 256) := ⟨y.toNat_lt⟩
  have hw := cast_byte hx.out
  generalize y.toNat = x at *
  go_enter Tryd.func7, Tryd.ntmps7
  go_wp2_with fail
  go_ret
  exact ⟨ret_int hw, rfl⟩

set_option maxHeartbeats 400000 in
theorem at_out (ao : Option Addr) (len cap : Nat) (i : Nat) (w : World) (hl : len ≤ 1073741824) (h100 : i ≤ 1000) (hi : ¬ (i : Int) < (len : Int)) :
    Calls Tryd.prog 7 #[.slice ao len cap, .int .i64 (i : Int)] w fun e w' => e = .returned (.int .i64 (((i * 31 + len * 7) % 256 : Nat) : Int)) ∧ w' = w := by
  go_enter Tryd.func7, Tryd.ntmps7
  go_wp2_with fail
  go_ret
  exact ⟨ret_int (by omega), rfl⟩

theorem at_any (ao : Option Addr) (len cap : Nat) (bs : List UInt8) (i : Nat) (w : World) (hl : len ≤ 1073741824) (h100 : i ≤ 1000) (hr : Reads w ao len bs) :
    Calls Tryd.prog 7 #[.slice ao len cap, .int .i64 (i : Int)] w fun e w' => e = .returned (.int .i64 (atV bs i : Int)) ∧ w' = w := by
  by_cases hi : (i : Int) < (len : Int)
  · rcases hr.2 with h0 | ⟨b, off, rfl, hc⟩
    · omega
    · have e : atV bs i = (bs.getD i 0).toNat := by unfold atV; rw [if_pos (by rw [hr.1]; omega)]
      rw [e]
      exact at_in b off len cap _ i w hi (hc i (by omega))
  · have e : atV bs i = (i * 31 + len * 7) % 256 := by unfold atV; rw [if_neg (by rw [hr.1]; omega), hr.1]
    rw [e]
    exact at_out ao len cap i w hl h100 hi
theorem at_two (ao : Option Addr) (len cap : Nat) (bs : List UInt8) (w : World) (hl : len ≤ 1073741824) (hr : Reads w ao len bs) :
    Calls Tryd.prog 7 #[.slice ao len cap, .int .i64 2] w fun e w' => e = .returned (.int .i64 (atV bs 2 : Int)) ∧ w' = w := at_any ao len cap bs 2 w hl (by omega) hr
theorem at_three (ao : Option Addr) (len cap : Nat) (bs : List UInt8) (w : World) (hl : len ≤ 1073741824) (hr : Reads w ao len bs) :
    Calls Tryd.prog 7 #[.slice ao len cap, .int .i64 3] w fun e w' => e = .returned (.int .i64 (atV bs 3 : Int)) ∧ w' = w := at_any ao len cap bs 3 w hl (by omega) hr

end Go.Proofs.YtjpfkjehlaepbaaDoor
