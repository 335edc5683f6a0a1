/- What the laws of stage 8 carry along. -/
import Derived.Test.YtpafjehphajbhaaGreatDoorCellU
namespace Go.Proofs.YtpafjehphajbhaaGreatDoor
set_option maxRecDepth 4000
open Go.RowKit

/-- A cell in its box d, its bytes in block g (where they are nil: a number of a block of which nothing is carried). -/
structure BoxC (d : Nat) (tag : Int) (ao : Option Addr) (g n c : Nat) (bs : List UInt8) (wi : World) : Prop where
  box : wi.heap[d]? = some (.cells #[.int .i64 tag, .slice ao n c] 27 (0, 0))
  row : RowO wi ao g bs
  len : bs.length = n
  hc : n ≤ c
  hz : ao = none → c = 0
  lt : g < d
theorem BoxC.below {d : Nat} {tag : Int} {ao : Option Addr} {g n c : Nat} {bs : List UInt8} {wi wj : World} (h : BoxC d tag ao g n c bs wi) (hB : Below wi.heap.size wi wj) : BoxC d tag ao g n c bs wj :=
  ⟨(hB.block _ (lt_of_block h.box)).trans h.box, h.row.below hB, h.len, h.hc, h.hz, h.lt⟩
theorem BoxC.grown {d : Nat} {tag : Int} {ao : Option Addr} {g n c k : Nat} {bs : List UInt8} {wi wj : World} (h : BoxC d tag ao g n c bs wi) (hG : wi.grownBy wj (some k)) (hd : d ≠ k) (hg : g ≠ k) : BoxC d tag ao g n c bs wj :=
  ⟨grown_block hG h.box hd, h.row.grown hG hg, h.len, h.hc, h.hz, h.lt⟩
theorem BoxC.marked {d : Nat} {tag : Int} {ao : Option Addr} {g n c : Nat} {bs es : List UInt8} {wi wj : World} (h : BoxC d tag ao g n c bs wi) (hG : wi.grownBy wj (some g)) (hR : RowO wj ao g es) (hl : es.length = n) : BoxC d tag ao g n c es wj :=
  ⟨grown_block hG h.box (by have := h.lt; omega), hR, hl, h.hc, h.hz, h.lt⟩
theorem BoxC.reads {d : Nat} {tag : Int} {ao : Option Addr} {g n c : Nat} {bs : List UInt8} {wi : World} (h : BoxC d tag ao g n c bs wi) : Reads wi ao n bs := h.row.reads h.len
theorem BoxC.at_ {d : Nat} {tag : Int} {ao : Option Addr} {g n c : Nat} {bs : List UInt8} {wi : World} (h : BoxC d tag ao g n c bs wi) : CellAt wi ao n c bs := by
  rcases h.row with ⟨h1, h2⟩ | ⟨h1, h2⟩
  · exact .inl ⟨h1, by rw [← h.len, h2]; rfl, h.hz h1, h2⟩
  · exact .inr ⟨g, h1, h.hc, h.len, h2.lt, fun j hj => by rw [Nat.zero_add]; exact h2.cell j (by rw [h.len]; exact hj)⟩
theorem boxC_row {w1 : World} {tag : Int} {g n : Nat} {bs : List UInt8} (hR : Row w1 g bs) (hn : bs.length = n) : BoxC w1.heap.size tag (some ⟨g, 0, none⟩) g n n bs (w1.alloc (.cells #[.int .i64 tag, .slice (some ⟨g, 0, none⟩) n n] 27)) :=
  ⟨alloc_new w1 _ rfl, .inr ⟨rfl, hR.below (below_lit w1 _)⟩, hn, Nat.le_refl _, (fun h => by cases h), hR.lt⟩
theorem boxC_out {w w1 : World} {tag : Int} {ao : Option Addr} {n c : Nat} {bs : List UInt8} (hO : OwnO w1 (w.heap.size + 1) ao c bs) (hn : bs.length = n) (hs : w.heap.size < w1.heap.size) : ∃ g, w.heap.size ≤ g ∧ BoxC w1.heap.size tag ao g n c bs (w1.alloc (.cells #[.int .i64 tag, .slice ao n c] 27)) := by
  rcases hO with ⟨rfl, rfl, rfl⟩ | ⟨q, rfl, hq, hO⟩
  · exact ⟨w.heap.size, Nat.le_refl _, alloc_new w1 _ rfl, .inl ⟨rfl, rfl⟩, hn, by simp at hn; omega, (fun _ => rfl), hs⟩
  · exact ⟨q, by omega, alloc_new w1 _ rfl, .inr ⟨rfl, hO.row.below (below_lit w1 _)⟩, hn, by have := hO.le; omega, (fun h => by cases h), hO.lt⟩
theorem row_at {w : World} {g n : Nat} {bs : List UInt8} (hR : Row w g bs) (hn : bs.length = n) : CellAt w (some ⟨g, 0, none⟩) n n bs :=
  .inr ⟨g, rfl, Nat.le_refl _, hn, hR.lt, fun j hj => by rw [Nat.zero_add]; exact hR.cell j (by omega)⟩

end Go.Proofs.YtpafjehphajbhaaGreatDoor
