/- Contracts of the specification's sets: the sign at a place, the bytes of a sign; Decode and DecodeLossy. -/
import Derived.Test.YtcddjfdmodpnjabDoorCodeX
import Derived.Test.YtcddjfdmodpnjabDoorCodeR
namespace Go.Proofs.YtcddjfdmodpnjabDoor
open Go.RowKit

set_option maxHeartbeats 400000 in
theorem l5Cs_any (cs : Int) (w : World) : Calls Tryd.prog 13 #[.int .i64 cs] w fun e w' => e = .returned (.bool (inB cs 0 5)) ∧ w' = w := by
  obtain ⟨ok, hok⟩ : ∃ ok, inB cs 0 5 = ok := ⟨_, rfl⟩
  have HK : Hd (inB cs 0 5 = ok) := ⟨hok⟩
  clear hok
  go_enter Tryd.func13, Tryd.ntmps13
  go_wp2_with fail
  refine (l1In_any cs 0 5 _).mono ?_
  rintro e w1 ⟨rfl, hw⟩
  replace hw := hw.symm
  subst hw
  rewrite [HK.out]
  go_wp2_with fail
  go_ret
  exact ⟨ret_bool HK.out.symm, rfl⟩

/-- Where the loops of the specification's Decode and DecodeLossy stand. -/
structure SAt (w : World) (cs : Int) (bs : List UInt8) (k q c n lost : Nat) (wr : World) : Prop where
  out : ∃ xs : List UInt8, xs.length = n ∧ ReadAt cs bs k xs lost ∧ w.heap.size ≤ q ∧ Own wr q c xs ∧ Below w.heap.size w wr
theorem SAt.fits {w : World} {cs : Int} {bs : List UInt8} {k q c n lost : Nat} {wr : World} (h : SAt w cs bs k q c n lost wr) : k ≤ bs.length ∧ lost ≤ k ∧ n ≤ 4 * k := by
  obtain ⟨xs, h0, h1, _, _, _⟩ := h.out
  exact ⟨h1.le, h1.few, by have := h1.size; omega⟩
theorem SAt.bel {w : World} {cs : Int} {bs : List UInt8} {k q c n lost : Nat} {wr : World} (h : SAt w cs bs k q c n lost wr) : Below w.heap.size w wr := by
  obtain ⟨xs, _, _, _, _, h5⟩ := h.out; exact h5
theorem sAt_zero (w : World) (cs : Int) (bs : List UInt8) : SAt w cs bs 0 w.heap.size 0 0 0 (w.alloc (.cells #[] 5)) :=
  ⟨[], rfl, readAt_zero cs bs, Nat.le_refl _, own_none w, below_lit _ _⟩

end Go.Proofs.YtcddjfdmodpnjabDoor
