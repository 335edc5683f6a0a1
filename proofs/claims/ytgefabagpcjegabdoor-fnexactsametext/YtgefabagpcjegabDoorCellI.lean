/- Contracts of CellOk, CellText and CellOf, in the program. -/
import Derived.Test.YtgefabagpcjegabDoorCellU
namespace Go.Proofs.YtgefabagpcjegabDoor
set_option maxRecDepth 4000
open Go.RowKit

set_option maxHeartbeats 400000 in
theorem implCellOk_any (tag : Int) (ao : Option Addr) (n c : Nat) (w : World) :
    Calls Tryd.prog 17 #[.agg #[.int .i64 tag, .slice ao n c]] w fun e w' => e = .returned (.bool (cOk tag n)) ∧ Below w.heap.size w w' := by
  unfold cOk
  cases hi : inB tag 0 5 with
  | false =>
    have hcs : ¬ (0 ≤ tag ∧ tag ≤ 5) := of_decide_eq_false hi
    clear hi
    go_enter Tryd.func17, Tryd.ntmps17
    go_wp2_with fail
    refine (setOf_no tag _ hcs).mono ?_
    rintro e w1 ⟨rfl, hw1⟩
    replace hw1 := hw1.symm
    subst hw1
    clear hcs
    go_wp2_with fail
    go_ret
    exact ⟨rfl, below_lit _ _⟩
  | true =>
    have hcs := in_cs hi
    clear hi
    go_enter Tryd.func17, Tryd.ntmps17
    go_wp2_with fail
    refine (setOf_yes tag _ hcs).mono ?_
    rintro e w1 ⟨rfl, hw1⟩
    replace hw1 := hw1.symm
    subst hw1
    generalize setV tag = sv
    clear hcs
    go_wp2_with fail
    go_ret
    exact ⟨rfl, below_lit _ _⟩

/-- What a cell says, in the program: a text beside whether there is one. -/
structure SaidOut (w : World) (s : List UInt8) (ok : Bool) (e : Ending) (w' : World) : Prop where
  out : e = .returned (.agg #[.string ⟨s.toArray⟩, .bool ok]) ∧ Below w.heap.size w w'

set_option maxHeartbeats 400000 in
theorem implSaying_any (tag : Int) (ao : Option Addr) (n c : Nat) (bs : List UInt8) (w : World) (h : CellAt w ao n c bs) (hl : n ≤ 1048576) (T : Hd (AllAt w)) :
    Calls Tryd.prog 12 #[.agg #[.int .i64 tag, .slice ao n c]] w (SaidOut w (tS tag bs) (tOk tag bs)) := by
  have HC : Hd (CellAt w ao n c bs) := ⟨h⟩
  have Hn : Hd (bs.length = n) := ⟨h.size⟩
  clear h
  cases hk : cOk tag n with
  | false =>
    obtain ⟨e1, e2⟩ := tS_no (tag := tag) (bs := bs) (by rw [Hn.out]; exact hk)
    rw [e1, e2]
    have HK : Hd (cOk tag n = false) := ⟨hk⟩
    clear hk e1 e2
    go_enter Tryd.func12, Tryd.ntmps12
    go_wp2_with fail
    refine (implCellOk_any tag ao n c _).mono ?_
    rintro e w1 ⟨rfl, hB⟩
    rewrite [HK.out]
    have HB : Hd (Below w.heap.size w w1) := ⟨Below.next (below_lit2 w _ _) hB⟩
    have R1 : Hd (w1.heap[w.heap.size + 1]? = some (.cells #[.string ⟨#[]⟩, .bool false] 35 (0, 0))) := ⟨(two_at hB).2⟩
    obtain ⟨r0, r1, r2, r3⟩ := cells2 _ (w.heap.size + 1) _ _ _ R1.out
    clear hB
    go_wp2_with fail
    refine bodyPost_ret (results_cell_row rfl _ _ (w.heap.size + 1) _ _ (0, 0) _ rfl (set2 _ _ R1.out) Tryd.underlying35 rfl (by kernel_rfl)) rfl ?_
    exact ⟨rfl, bset (bset HB.out _ (by omega)) _ (by omega)⟩
  | true =>
    obtain ⟨e1, e2⟩ := tS_yes (tag := tag) (bs := bs) (by rw [Hn.out]; exact hk)
    rw [e1, e2]
    have HK : Hd (cOk tag n = true) := ⟨hk⟩
    clear hk e1 e2
    obtain ⟨S, hS⟩ : ∃ S, (decS tag bs).toArray = S := ⟨_, rfl⟩
    have HS : Hd ((decS tag bs).toArray = S) := ⟨hS⟩
    obtain ⟨ok, hok⟩ : ∃ ok, decOk tag bs = ok := ⟨_, rfl⟩
    have HO : Hd (decOk tag bs = ok) := ⟨hok⟩
    have HE : Hd (⟨(decS tag bs).toArray⟩ = (⟨S⟩ : ByteArray)) := ⟨by rw [hS]⟩
    clear hS hok
    go_enter Tryd.func12, Tryd.ntmps12
    go_wp2_with fail
    refine (implCellOk_any tag ao n c _).mono ?_
    rintro e w1 ⟨rfl, hB⟩
    rewrite [HK.out]
    have HB : Hd (Below w.heap.size w w1) := ⟨Below.next (below_lit2 w _ _) hB⟩
    have R1 : Hd (w1.heap[w.heap.size + 1]? = some (.cells #[.string ⟨#[]⟩, .bool false] 35 (0, 0))) := ⟨(two_at hB).2⟩
    obtain ⟨b0, b1, _, _⟩ := cells2 w1 w.heap.size _ _ _ (two_at hB).1
    clear hB
    go_wp2_with fail
    refine (implDecode_o tag ao n c bs _ (HC.out.below HB.out) hl ⟨T.out.below HB.out⟩).mono ?_
    rintro e w2 ⟨rfl, hB2⟩
    rewrite [HS.out, HO.out]
    have HB2 : Hd (Below w.heap.size w w2) := ⟨Below.next HB.out hB2⟩
    have R2 : Hd (w2.heap[w.heap.size + 1]? = some (.cells #[.string ⟨#[]⟩, .bool false] 35 (0, 0))) := ⟨(hB2.block _ (lt_of_block R1.out)).trans R1.out⟩
    obtain ⟨r0, r1, r2, r3⟩ := cells2 _ (w.heap.size + 1) _ _ _ R2.out
    clear hB2 HB b0 b1 R1
    go_wp2_with fail
    refine bodyPost_ret (results_cell_row rfl _ _ (w.heap.size + 1) _ _ (0, 0) _ rfl (set2 _ _ R2.out) Tryd.underlying35 rfl (by kernel_rfl)) rfl ?_
    exact ⟨by rw [HE.out, HO.out], bset (bset HB2.out _ (by omega)) _ (by omega)⟩

theorem said_at {w : World} {S : Array UInt8} {ok : Bool} : (w.alloc (.cells #[.string ⟨S⟩, .bool ok] 35)).heap[w.heap.size]? = some (.cells #[.string ⟨S⟩, .bool ok] 35 (0, 0)) := alloc_new w _ rfl

end Go.Proofs.YtgefabagpcjegabDoor
