/- Contracts of Turn and of saying.sameAs, in the program. -/
import Derived.Test.YtgefabagpcjegabDoorCellI
import Derived.Deep.RegionHeld3
namespace Go.Proofs.YtgefabagpcjegabDoor
set_option maxRecDepth 4000
open Go.RowKit

theorem cell_set2 {w : World} {p : Addr} {v x y : Value} {g : Nat} (h : w.cell? p = some v) (hne : p.block ≠ g) : ((w.setCell ⟨g, 0, none⟩ x).setCell ⟨g, 1, none⟩ y).cell? p = some v := cell_set (cell_set h hne) hne
theorem clone_o (ao : Option Addr) (n c : Nat) (bs : List UInt8) (w : World) (h : CellAt w ao n c bs) (hl : n ≤ 1073741824) :
    Calls Tryd.prog 46 #[.slice ao n c] w fun e w' => ∃ a' c', e = .returned (.slice a' n c') ∧ OwnO w' w.heap.size a' c' bs ∧ Below w.heap.size w w' := by
  rcases h with ⟨rfl, rfl, rfl, rfl⟩ | ⟨q, rfl, _, h3⟩
  · refine (clone_nil w).mono ?_
    rintro e w1 ⟨rfl, rfl⟩
    exact ⟨none, 0, rfl, .inl ⟨rfl, rfl, rfl⟩, Below.refl _ _⟩
  · refine (clone_some q 0 n c bs w h3.size h3.cell h3.lt hl).mono ?_
    rintro e w1 ⟨g, c1, rfl, hg, hO, hB⟩
    exact ⟨_, c1, by rw [h3.size], .inr ⟨g, rfl, hg, hO⟩, hB⟩

/-- A cell's box, and that of the result. -/
structure TBox (w : World) (tag : Int) (v : Value) (wx : World) : Prop where
  box : wx.heap[w.heap.size]? = some (.cells #[.int .i64 tag, v] 27 (0, 0))
  res : wx.heap[w.heap.size + 1]? = some (.cells #[.int .i64 0, .slice none 0 0] 27 (0, 0))
  bel : Below w.heap.size w wx
theorem TBox.below {w : World} {tag : Int} {v : Value} {wx wy : World} (h : TBox w tag v wx) (hB : Below wx.heap.size wx wy) : TBox w tag v wy :=
  ⟨(hB.block _ (lt_of_block h.box)).trans h.box, (hB.block _ (lt_of_block h.res)).trans h.res, Below.next h.bel hB⟩
theorem tBox_new (w : World) (tag : Int) (v : Value) : TBox w tag v ((w.alloc (.cells #[.int .i64 tag, v] 27)).alloc (.cells #[.int .i64 0, .slice none 0 0] 27)) :=
  ⟨(laid2 w _ _).1, (laid2 w _ _).2, below_lit2 w _ _⟩
theorem turn_no {w w3 : World} {tag to : Int} {v : Value} {ao : Option Addr} {n c : Nat} {bs : List UInt8} {ok : Bool} (F : TBox w tag v w3) (hO : OwnO w3 (w.heap.size + 2) ao c bs) (hn : bs.length = n) (e1 : nTag tag bs to = tag) (e2 : nB tag bs to = bs) :
    CellOut w (nTag tag bs to) (nB tag bs to) ok (.returned (.tuple #[.agg #[.int .i64 tag, .slice ao n c], .bool ok])) ((w3.setCell ⟨w.heap.size + 1, 0, none⟩ (.int .i64 tag)).setCell ⟨w.heap.size + 1, 1, none⟩ (.slice ao n c)) := by
  rw [e1, e2]
  exact ⟨ao, n, c, rfl, hn, ((hO.of_set (by omega)).of_set (by omega)).mono (by omega), by have := lt_of_block F.res; simp at this ⊢; omega, bset (bset F.bel _ (by omega)) _ (by omega)⟩

set_option maxHeartbeats 400000 in
theorem sameAs_any (x y : Array UInt8) (k1 k2 : Bool) (w : World) :
    Calls Tryd.prog 13 #[.agg #[.string ⟨x⟩, .bool k1], .agg #[.string ⟨y⟩, .bool k2]] w fun e w' => e = .returned (.bool (k1 && k2 && ((⟨x⟩ : ByteArray).toList == (⟨y⟩ : ByteArray).toList))) ∧ Below w.heap.size w w' := by
  cases k1 with
  | false =>
    go_enter Tryd.func13, Tryd.ntmps13
    go_wp2_with fail
    go_ret
    exact ⟨rfl, below_lit2 w _ _⟩
  | true =>
    cases k2 with
    | false =>
      go_enter Tryd.func13, Tryd.ntmps13
      go_wp2_with fail
      go_ret
      exact ⟨rfl, below_lit2 w _ _⟩
    | true =>
      go_enter Tryd.func13, Tryd.ntmps13
      go_wp2_with fail
      go_ret
      exact ⟨rfl, below_lit2 w _ _⟩

end Go.Proofs.YtgefabagpcjegabDoor
