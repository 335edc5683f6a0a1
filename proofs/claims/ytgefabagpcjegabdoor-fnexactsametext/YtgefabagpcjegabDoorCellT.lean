/- Contracts of CellOk, CellText, CellOf, Turn and SameText, in the specification. -/
import Derived.Test.YtgefabagpcjegabDoorCellP
import Derived.Test.YtgefabagpcjegabDoorCellS
import Derived.Test.YtgefabagpcjegabDoorDecNil
namespace Go.Proofs.YtgefabagpcjegabDoor
set_option maxRecDepth 4000
open Go.RowKit

/-- A cell that is answered, with a flag: its bytes are new memory, or nil; at least the result's own box was laid. -/
structure CellOut (w : World) (tag : Int) (bs : List UInt8) (ok : Bool) (e : Ending) (w' : World) : Prop where
  out : ∃ ao n c, e = .returned (.tuple #[.agg #[.int .i64 tag, .slice ao n c], .bool ok]) ∧ bs.length = n ∧ OwnO w' (w.heap.size + 1) ao c bs ∧ w.heap.size < w'.heap.size ∧ Below w.heap.size w w'

theorem box_at {w w1 : World} {v : Value} {tag : Int} (hb : Below (w.alloc (.cells #[.int .i64 tag, v] 27)).heap.size (w.alloc (.cells #[.int .i64 tag, v] 27)) w1) :
    w1.heap[w.heap.size]? = some (.cells #[.int .i64 tag, v] 27 (0, 0)) := (hb.block w.heap.size (by simp)).trans (heap_alloc_new w _)

set_option maxHeartbeats 400000 in
theorem specCellOk_any (tag : Int) (ao : Option Addr) (n c : Nat) (w : World) :
    Calls Tryd.prog 15 #[.agg #[.int .i64 tag, .slice ao n c]] w fun e w' => e = .returned (.bool (cOk tag n)) ∧ Below w.heap.size w w' := by
  obtain ⟨ok, hok⟩ : ∃ ok, inB tag 0 5 = ok := ⟨_, rfl⟩
  have HK : Hd (inB tag 0 5 = ok) := ⟨hok⟩
  unfold cOk
  rw [hok]
  clear hok
  go_enter Tryd.func15, Tryd.ntmps15
  go_wp2_with fail
  refine (l5Cs_any tag _).mono ?_
  rintro e w1 ⟨rfl, hw1⟩
  subst hw1
  rewrite [HK.out]
  clear HK
  cases ok with
  | false =>
    go_wp2_with fail
    go_ret
    exact ⟨rfl, below_lit _ _⟩
  | true =>
    go_wp2_with fail
    go_ret
    exact ⟨rfl, below_lit _ _⟩

set_option maxHeartbeats 400000 in
theorem specCellText_any (tag : Int) (ao : Option Addr) (n c : Nat) (bs : List UInt8) (w : World) (h : CellAt w ao n c bs) (hl : n ≤ 1048576) :
    Calls Tryd.prog 10 #[.agg #[.int .i64 tag, .slice ao n c]] w (TextB w (tS tag bs) (tOk tag bs)) := by
  have HC : Hd (CellAt w ao n c bs) := ⟨h⟩
  have Hn : Hd (bs.length = n) := ⟨h.size⟩
  clear h
  cases hk : cOk tag n with
  | false =>
    obtain ⟨e1, e2⟩ := tS_no (tag := tag) (bs := bs) (by rw [Hn.out]; exact hk)
    rw [e1, e2]
    have HK : Hd (cOk tag n = false) := ⟨hk⟩
    clear hk e1 e2
    go_enter Tryd.func10, Tryd.ntmps10
    go_wp2_with fail
    refine (specCellOk_any tag ao n c _).mono ?_
    rintro e w1 ⟨rfl, hB⟩
    rewrite [HK.out]
    have HB : Hd (Below w.heap.size w w1) := ⟨Below.next (below_lit w _) hB⟩
    clear hB
    go_wp2_with fail
    go_ret2
    exact ⟨rfl, HB.out⟩
  | true =>
    obtain ⟨e1, e2⟩ := tS_yes (tag := tag) (bs := bs) (by rw [Hn.out]; exact hk)
    rw [e1, e2]
    have HK : Hd (cOk tag n = true) := ⟨hk⟩
    clear hk e1 e2
    obtain ⟨S, hS⟩ : ∃ S, decS tag bs = S := ⟨_, rfl⟩
    have HS : Hd (decS tag bs = S) := ⟨hS⟩
    obtain ⟨ok, hok⟩ : ∃ ok, decOk tag bs = ok := ⟨_, rfl⟩
    have HO : Hd (decOk tag bs = ok) := ⟨hok⟩
    rw [hS, hok]
    clear hS hok
    go_enter Tryd.func10, Tryd.ntmps10
    go_wp2_with fail
    refine (specCellOk_any tag ao n c _).mono ?_
    rintro e w1 ⟨rfl, hB⟩
    rewrite [HK.out]
    have HB : Hd (Below w.heap.size w w1) := ⟨Below.next (below_lit w _) hB⟩
    obtain ⟨b0, b1, _, _⟩ := cells2 w1 w.heap.size _ _ _ (box_at hB)
    clear hB
    go_wp2_with fail
    refine (specDecode_o tag ao n c bs _ (HC.out.below HB.out) hl).mono ?_
    rintro e w2 ⟨rfl, hB2⟩
    rewrite [HS.out, HO.out]
    have HB2 : Hd (Below w.heap.size w w2) := ⟨Below.next HB.out hB2⟩
    clear hB2 HB b0 b1
    go_wp2_with fail
    go_ret2
    exact ⟨rfl, HB2.out⟩

end Go.Proofs.YtgefabagpcjegabDoor
