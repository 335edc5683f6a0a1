/- Contracts of what FnSums draws. -/
import Derived.Test.YtdaieeonjakdeaaDraw
import Derived.Test.YtdaieeonjakdeaaSumsLaw
import Derived.Deep.RegionHeld3
import Derived.Deep.RegionWith
namespace Go.Proofs.Ytdaieeonjakdeaa
open Go.RowKit

theorem below_grows {B : Nat} {a w w' : World} {g : Nat} (h : Below B a w) (hg : w.grownBy w' (some g)) (hB : B ≤ w.heap.size) (hr : B ≤ g) : Below B a w' := h.grown hg hB (fun k e => by simp at e; omega)

set_option maxHeartbeats 400000 in
theorem big_any (ao : Option Addr) (len cap : Nat) (w : World) : Calls Try.prog 5 #[.slice ao len cap] w fun e w' => e = .returned (.bool (decide (1048576 < (len : Int)))) ∧ w' = w := by
  go_enter Try.func5, Try.ntmps5
  go_wp2_with fail
  go_ret
  exact ⟨rfl, rfl⟩

/-- Some bytes, fewer than m. -/
structure DrawnBytes (w : World) (m : Nat) (e : Ending) (w' : World) : Prop where
  out : ∃ (q c : Nat) (ds : List UInt8), e = .returned (.slice (some ⟨q, 0, none⟩) ds.length c) ∧ ds.length < m ∧ w.heap.size ≤ q ∧ Own w' q c ds ∧ Below w.heap.size w w'

set_option maxHeartbeats 400000 in
theorem drawSum_any (ao : Option Addr) (len cap : Nat) (bs : List UInt8) (w : World) (hl : len ≤ 1073741824) (hr : Reads w ao len bs) :
    Calls Try.prog 15 #[.slice ao len cap] w (DrawnBytes w 20) := by
  have H : Hd (Reads w ao len bs) := ⟨hr⟩
  clear hr
  go_enter Try.func15, Try.ntmps15
  go_wp2_with fail
  refine (l1New_any ao len cap bs _ hl H.out).mono ?_
  rintro e w1 ⟨rfl, hC1, hB1⟩
  have C1 : Hd (Cursor w1 w.heap.size ao len cap bs) := ⟨hC1⟩
  have B1 : Hd (Below w.heap.size w w1) := ⟨hB1⟩
  clear hC1 hB1
  go_wp2_with fail
  refine (l1Below_any w.heap.size ao len cap bs 20 _ hl (by omega) (by omega) C1.out).mono ?_
  rintro e w2 ⟨m, hm, rfl, hC2, hG2⟩
  have C2 : Hd (Cursor w2 w.heap.size ao len cap bs) := ⟨hC2⟩
  have B2 : Hd (Below w.heap.size w w2) := ⟨below_grows B1.out hG2 B1.out.size (Nat.le_refl _)⟩
  clear hC2 hG2 C1 B1
  go_wp2_with fail
  refine (l1Bytes_any w.heap.size ao len cap bs m _ hl (by omega) C2.out).mono ?_
  rintro e w3 ⟨q, c, ds, rfl, hds, hq, hO, hC3, hG3⟩
  have B3 : Hd (Below w.heap.size w w3) := ⟨below_grows B2.out hG3 B2.out.size (Nat.le_refl _)⟩
  have O3 : Hd (Own w3 q c ds) := ⟨hO⟩
  have D3 : Hd (ds.length = m) := ⟨hds⟩
  have q3 : Hd (w.heap.size < q) := ⟨by have := C2.out.lt; omega⟩
  clear hC3 hG3 hO hds hq C2 B2
  go_wp2_with fail
  go_ret
  exact ⟨q, c, ds, by rw [D3.out]; rfl, by rw [D3.out]; exact hm, Nat.le_of_lt q3.out, O3.out, B3.out⟩

/-- The code's byte at a place, or a number of it. -/
def atV (bs : List UInt8) (i : Nat) : Nat := if i < bs.length then (bs.getD i 0).toNat else (i * 31 + bs.length * 7) % 256
theorem atV_lt (bs : List UInt8) (i : Nat) : atV bs i < 256 := by
  unfold atV; split
  · exact (bs.getD i 0).toNat_lt
  · exact Nat.mod_lt _ (by omega)

set_option maxHeartbeats 400000 in
theorem at_in (b off len cap : Nat) (y : UInt8) (i : Nat) (w : World) (hi : (i : Int) < (len : Int)) (hc : w.cell? ⟨b, off + i, none⟩ = some (.int .u8 (y.toNat : Int))) :
    Calls Try.prog 18 #[.slice (some ⟨b, off, none⟩) len cap, .int .i64 (i : Int)] w fun e w' => e = .returned (.int .i64 (y.toNat : Int)) ∧ w' = w := by
  have hx : Hd (y.toNat < 256) := ⟨y.toNat_lt⟩
  have hw := cast_byte hx.out
  generalize y.toNat = x at *
  go_enter Try.func18, Try.ntmps18
  go_wp2_with fail
  go_ret
  exact ⟨ret_int hw, rfl⟩

set_option maxHeartbeats 400000 in
theorem at_out (ao : Option Addr) (len cap : Nat) (i : Nat) (w : World) (hl : len ≤ 1073741824) (h100 : i ≤ 1000) (hi : ¬ (i : Int) < (len : Int)) :
    Calls Try.prog 18 #[.slice ao len cap, .int .i64 (i : Int)] w fun e w' => e = .returned (.int .i64 (((i * 31 + len * 7) % 256 : Nat) : Int)) ∧ w' = w := by
  go_enter Try.func18, Try.ntmps18
  go_wp2_with fail
  go_ret
  exact ⟨ret_int (by omega), rfl⟩

theorem at_any (ao : Option Addr) (len cap : Nat) (bs : List UInt8) (i : Nat) (w : World) (hl : len ≤ 1073741824) (h100 : i ≤ 1000) (hr : Reads w ao len bs) :
    Calls Try.prog 18 #[.slice ao len cap, .int .i64 (i : Int)] w fun e w' => e = .returned (.int .i64 (atV bs i : Int)) ∧ w' = w := by
  by_cases hi : (i : Int) < (len : Int)
  · rcases hr.2 with h0 | ⟨b, off, rfl, hc⟩
    · omega
    · have e : atV bs i = (bs.getD i 0).toNat := by unfold atV; rw [if_pos (by rw [hr.1]; omega)]
      rw [e]
      exact at_in b off len cap _ i w hi (hc i (by omega))
  · have e : atV bs i = (i * 31 + len * 7) % 256 := by unfold atV; rw [if_neg (by rw [hr.1]; omega), hr.1]
    rw [e]
    exact at_out ao len cap i w hl h100 hi
theorem at_two (ao : Option Addr) (len cap : Nat) (bs : List UInt8) (w : World) (hl : len ≤ 1073741824) (hr : Reads w ao len bs) :
    Calls Try.prog 18 #[.slice ao len cap, .int .i64 2] w fun e w' => e = .returned (.int .i64 (atV bs 2 : Int)) ∧ w' = w := at_any ao len cap bs 2 w hl (by omega) hr
theorem at_three (ao : Option Addr) (len cap : Nat) (bs : List UInt8) (w : World) (hl : len ≤ 1073741824) (hr : Reads w ao len bs) :
    Calls Try.prog 18 #[.slice ao len cap, .int .i64 3] w fun e w' => e = .returned (.int .i64 (atV bs 3 : Int)) ∧ w' = w := at_any ao len cap bs 3 w hl (by omega) hr

end Go.Proofs.Ytdaieeonjakdeaa
