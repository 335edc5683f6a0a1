/- What the laws of stage 6 carry along: the argument's box and its bytes, and boxes of states. -/
import Derived.Test.YtjbideiifoadkaaDoorFeedS
namespace Go.Proofs.YtjbideiifoadkaaDoor
set_option maxRecDepth 4000
open Go.RowKit

/-- The argument's box, and what came in. -/
structure ExA (w : World) (cs : Int) (a0 : Option Addr) (len0 cap0 : Nat) (bad : Bool) (bs : List UInt8) (a1 : Option Addr) (len1 : Nat) (bt : List UInt8) (wi : World) : Prop where
  box : wi.heap[w.heap.size]? = some (.cells #[.int .i64 cs, .slice a0 len0 cap0, .bool bad] 39 (0, 0))
  rA : Reads w a0 len0 bs
  rB : Reads w a1 len1 bt
  bel : Below w.heap.size w wi
theorem ExA.below {w : World} {cs : Int} {a0 : Option Addr} {len0 cap0 : Nat} {bad : Bool} {bs : List UInt8} {a1 : Option Addr} {len1 : Nat} {bt : List UInt8} {wi wj : World} (h : ExA w cs a0 len0 cap0 bad bs a1 len1 bt wi) (hB : Below wi.heap.size wi wj) : ExA w cs a0 len0 cap0 bad bs a1 len1 bt wj :=
  ⟨(hB.block _ (lt_block h.box)).trans h.box, h.rA, h.rB, Below.next h.bel hB⟩
theorem ExA.grown {w : World} {cs : Int} {a0 : Option Addr} {len0 cap0 : Nat} {bad : Bool} {bs : List UInt8} {a1 : Option Addr} {len1 : Nat} {bt : List UInt8} {wi wj : World} {g : Nat} (h : ExA w cs a0 len0 cap0 bad bs a1 len1 bt wi) (hG : wi.grownBy wj (some g)) (hg : w.heap.size < g) : ExA w cs a0 len0 cap0 bad bs a1 len1 bt wj :=
  ⟨grown_block hG h.box (by omega), h.rA, h.rB, below_grows h.bel hG h.bel.size (by omega)⟩
theorem ExA.readsA {w : World} {cs : Int} {a0 : Option Addr} {len0 cap0 : Nat} {bad : Bool} {bs : List UInt8} {a1 : Option Addr} {len1 : Nat} {bt : List UInt8} {wi : World} (h : ExA w cs a0 len0 cap0 bad bs a1 len1 bt wi) : Reads wi a0 len0 bs := h.rA.below rfl h.bel
theorem ExA.readsB {w : World} {cs : Int} {a0 : Option Addr} {len0 cap0 : Nat} {bad : Bool} {bs : List UInt8} {a1 : Option Addr} {len1 : Nat} {bt : List UInt8} {wi : World} (h : ExA w cs a0 len0 cap0 bad bs a1 len1 bt wi) : Reads wi a1 len1 bt := h.rB.below rfl h.bel

/-- A state in its box. -/
structure BoxD (w : World) (d : Nat) (cs : Int) (g n c : Nat) (bd : Bool) (ls : List UInt8) (wi : World) : Prop where
  box : wi.heap[d]? = some (.cells #[.int .i64 cs, .slice (some ⟨g, 0, none⟩) n c, .bool bd] 30 (0, 0))
  row : Row wi g ls
  len : ls.length = n
  wd : w.heap.size < d
  wg : w.heap.size < g
theorem BoxD.below {w : World} {d : Nat} {cs : Int} {g n c : Nat} {bd : Bool} {ls : List UInt8} {wi wj : World} (h : BoxD w d cs g n c bd ls wi) (hB : Below wi.heap.size wi wj) : BoxD w d cs g n c bd ls wj :=
  ⟨(hB.block _ (lt_block h.box)).trans h.box, h.row.below hB, h.len, h.wd, h.wg⟩
theorem BoxD.grown {w : World} {d : Nat} {cs : Int} {g n c k : Nat} {bd : Bool} {ls : List UInt8} {wi wj : World} (h : BoxD w d cs g n c bd ls wi) (hG : wi.grownBy wj (some k)) (hd : d ≠ k) (hg : g ≠ k) : BoxD w d cs g n c bd ls wj :=
  ⟨grown_block hG h.box hd, h.row.grown hG hg, h.len, h.wd, h.wg⟩
theorem BoxD.marked {w : World} {d : Nat} {cs : Int} {g n c : Nat} {bd : Bool} {ls es : List UInt8} {wi wj : World} (h : BoxD w d cs g n c bd ls wi) (hG : wi.grownBy wj (some g)) (hR : Row wj g es) (hl : es.length = n) (hd : d ≠ g) : BoxD w d cs g n c bd es wj :=
  ⟨grown_block hG h.box hd, hR, hl, h.wd, h.wg⟩
theorem boxD_new {w wi : World} {cs : Int} {g n c : Nat} {bd : Bool} {ls : List UInt8} (hR : Row wi g ls) (hl : ls.length = n) (hw : w.heap.size < wi.heap.size) (hg : w.heap.size < g) : BoxD w wi.heap.size cs g n c bd ls (wi.alloc (.cells #[.int .i64 cs, .slice (some ⟨g, 0, none⟩) n c, .bool bd] 30)) :=
  ⟨alloc_new wi _ rfl, hR.below (below_lit wi _), hl, hw, hg⟩

theorem fed_size {cs : Int} {held b : List UInt8} {bad : Bool} (h : held.length ≤ 2097152) : (fedH cs held bad b).length ≤ 2097152 := by
  unfold fedH
  split
  · have := (feed_held cs _ (held ++ b) (Nat.le_refl _)).2.2.2; omega
  · exact h

end Go.Proofs.YtjbideiifoadkaaDoor
