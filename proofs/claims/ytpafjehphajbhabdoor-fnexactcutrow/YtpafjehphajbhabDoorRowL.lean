/- What the laws of stage 9 carry along: the law's own row, rows in boxes of their own. -/
import Derived.Test.YtpafjehphajbhabDoorRowWa
import Derived.Test.YtpafjehphajbhabDoorRowT
import Derived.Test.YtpafjehphajbhabDoorCellL
namespace Go.Proofs.YtpafjehphajbhabDoor
set_option maxRecDepth 4000
open Go.RowKit

/-- The law's own argument, in its box. -/
structure ExR (w : World) (d : Nat) (k : ByteArray) (t1 : Int) (a1 : Option Addr) (n1 c1 : Nat) (t2 : Int) (a2 : Option Addr) (n2 c2 : Nat) (has : Int) (asd : Bool) (b1 b2 : List UInt8) (wi : World) : Prop where
  box : wi.heap[d]? = some (.cells #[.string k, .int .i64 t1, .slice a1 n1 c1, .int .i64 t2, .slice a2 n2 c2, .int .i64 has, .bool asd] 26 (0, 0))
  r1 : Reads w a1 n1 b1
  r2 : Reads w a2 n2 b2
  bel : Below w.heap.size w wi
  wd : w.heap.size ≤ d
/-- A row in its box d, the bytes of its cells in blocks g1, g2 (where they are nil: a number of a block of which nothing is carried). -/
structure BoxR (d : Nat) (k : ByteArray) (t1 : Int) (a1 : Option Addr) (g1 n1 c1 : Nat) (b1 : List UInt8) (t2 : Int) (a2 : Option Addr) (g2 n2 c2 : Nat) (b2 : List UInt8) (has : Int) (asd : Bool) (wi : World) : Prop where
  box : wi.heap[d]? = some (.cells #[.string k, .int .i64 t1, .slice a1 n1 c1, .int .i64 t2, .slice a2 n2 c2, .int .i64 has, .bool asd] 30 (0, 0))
  row1 : RowO wi a1 g1 b1
  row2 : RowO wi a2 g2 b2
  len1 : b1.length = n1
  len2 : b2.length = n2
  hc1 : n1 ≤ c1
  hz1 : a1 = none → c1 = 0
  hc2 : n2 ≤ c2
  hz2 : a2 = none → c2 = 0
  lt1 : g1 < d
  lt2 : g2 < d
  ne : g1 ≠ g2
section
variable {w : World} {d : Nat} {k : ByteArray} {t1 : Int} {a1 : Option Addr} {g1 n1 c1 : Nat} {b1 : List UInt8} {t2 : Int} {a2 : Option Addr} {g2 n2 c2 : Nat} {b2 : List UInt8} {has : Int} {asd : Bool} {wi wj : World}
theorem ExR.below (h : ExR w d k t1 a1 n1 c1 t2 a2 n2 c2 has asd b1 b2 wi) (hB : Below wi.heap.size wi wj) : ExR w d k t1 a1 n1 c1 t2 a2 n2 c2 has asd b1 b2 wj :=
  ⟨(hB.block _ (lt_of_block h.box)).trans h.box, h.r1, h.r2, Below.next h.bel hB, h.wd⟩
theorem ExR.grown {q : Nat} (h : ExR w d k t1 a1 n1 c1 t2 a2 n2 c2 has asd b1 b2 wi) (hG : wi.grownBy wj (some q)) (hq : d < q) : ExR w d k t1 a1 n1 c1 t2 a2 n2 c2 has asd b1 b2 wj :=
  ⟨grown_block hG h.box (by omega), h.r1, h.r2, below_grows h.bel hG h.bel.size (by have := h.wd; omega), h.wd⟩
theorem ExR.marked {p q : Nat} (h : ExR w d k t1 a1 n1 c1 t2 a2 n2 c2 has asd b1 b2 wi) (hM : Marked2 wi p q wj) (hp : d < p) (hq : d < q) : ExR w d k t1 a1 n1 c1 t2 a2 n2 c2 has asd b1 b2 wj := by
  obtain ⟨wm, h1, h2⟩ := hM.two
  exact (h.grown h1 hp).grown h2 hq
theorem ExR.reads1 (h : ExR w d k t1 a1 n1 c1 t2 a2 n2 c2 has asd b1 b2 wi) : Reads wi a1 n1 b1 := h.r1.below rfl h.bel
theorem ExR.reads2 (h : ExR w d k t1 a1 n1 c1 t2 a2 n2 c2 has asd b1 b2 wi) : Reads wi a2 n2 b2 := h.r2.below rfl h.bel
theorem below_marked {p q : Nat} (h : Below w.heap.size w wi) (hM : Marked2 wi p q wj) (hp : w.heap.size ≤ p) (hq : w.heap.size ≤ q) : Below w.heap.size w wj := by
  obtain ⟨wm, h1, h2⟩ := hM.two
  have h3 := below_grows h h1 h.size hp
  exact below_grows h3 h2 h3.size hq
theorem BoxR.below (h : BoxR d k t1 a1 g1 n1 c1 b1 t2 a2 g2 n2 c2 b2 has asd wi) (hB : Below wi.heap.size wi wj) : BoxR d k t1 a1 g1 n1 c1 b1 t2 a2 g2 n2 c2 b2 has asd wj :=
  ⟨(hB.block _ (lt_of_block h.box)).trans h.box, h.row1.below hB, h.row2.below hB, h.len1, h.len2, h.hc1, h.hz1, h.hc2, h.hz2, h.lt1, h.lt2, h.ne⟩
theorem BoxR.grown {q : Nat} (h : BoxR d k t1 a1 g1 n1 c1 b1 t2 a2 g2 n2 c2 b2 has asd wi) (hG : wi.grownBy wj (some q)) (hd : d ≠ q) (h1 : g1 ≠ q) (h2 : g2 ≠ q) : BoxR d k t1 a1 g1 n1 c1 b1 t2 a2 g2 n2 c2 b2 has asd wj :=
  ⟨grown_block hG h.box hd, h.row1.grown hG h1, h.row2.grown hG h2, h.len1, h.len2, h.hc1, h.hz1, h.hc2, h.hz2, h.lt1, h.lt2, h.ne⟩
/-- Another row's memory was marked. -/
theorem BoxR.other {p q : Nat} (h : BoxR d k t1 a1 g1 n1 c1 b1 t2 a2 g2 n2 c2 b2 has asd wi) (hM : Marked2 wi p q wj) (hd1 : d ≠ p) (h11 : g1 ≠ p) (h21 : g2 ≠ p) (hd2 : d ≠ q) (h12 : g1 ≠ q) (h22 : g2 ≠ q) : BoxR d k t1 a1 g1 n1 c1 b1 t2 a2 g2 n2 c2 b2 has asd wj := by
  obtain ⟨wm, h1, h2⟩ := hM.two
  exact (h.grown h1 hd1 h11 h21).grown h2 hd2 h12 h22
/-- Its own memory was marked. -/
theorem BoxR.marked {e1 e2 : List UInt8} (h : BoxR d k t1 a1 g1 n1 c1 b1 t2 a2 g2 n2 c2 b2 has asd wi) (hM : Marked2 wi g1 g2 wj) (hR1 : RowO wj a1 g1 e1) (hR2 : RowO wj a2 g2 e2) (hl1 : e1.length = n1) (hl2 : e2.length = n2) : BoxR d k t1 a1 g1 n1 c1 e1 t2 a2 g2 n2 c2 e2 has asd wj := by
  obtain ⟨wm, h1, h2⟩ := hM.two
  have := h.lt1; have := h.lt2
  exact ⟨grown_block h2 (grown_block h1 h.box (by omega)) (by omega), hR1, hR2, hl1, hl2, h.hc1, h.hz1, h.hc2, h.hz2, h.lt1, h.lt2, h.ne⟩
theorem BoxR.reads1 (h : BoxR d k t1 a1 g1 n1 c1 b1 t2 a2 g2 n2 c2 b2 has asd wi) : Reads wi a1 n1 b1 := h.row1.reads h.len1
theorem BoxR.reads2 (h : BoxR d k t1 a1 g1 n1 c1 b1 t2 a2 g2 n2 c2 b2 has asd wi) : Reads wi a2 n2 b2 := h.row2.reads h.len2
theorem at_of {ao : Option Addr} {g n c : Nat} {bs : List UInt8} (hr : RowO wi ao g bs) (hl : bs.length = n) (hc : n ≤ c) (hz : ao = none → c = 0) : CellAt wi ao n c bs := by
  rcases hr with ⟨h1, h2⟩ | ⟨h1, h2⟩
  · exact .inl ⟨h1, by rw [← hl, h2]; rfl, hz h1, h2⟩
  · exact .inr ⟨g, h1, hc, hl, h2.lt, fun j hj => by rw [Nat.zero_add]; exact h2.cell j (by rw [hl]; exact hj)⟩
theorem BoxR.at1 (h : BoxR d k t1 a1 g1 n1 c1 b1 t2 a2 g2 n2 c2 b2 has asd wi) : CellAt wi a1 n1 c1 b1 := at_of h.row1 h.len1 h.hc1 h.hz1
theorem BoxR.at2 (h : BoxR d k t1 a1 g1 n1 c1 b1 t2 a2 g2 n2 c2 b2 has asd wi) : CellAt wi a2 n2 c2 b2 := at_of h.row2 h.len2 h.hc2 h.hz2
theorem boxR_rows (h1 : Row wi g1 b1) (h2 : Row wi g2 b2) (hg : g1 < g2) (hl1 : b1.length = n1) (hl2 : b2.length = n2) :
    BoxR wi.heap.size k t1 (some ⟨g1, 0, none⟩) g1 n1 n1 b1 t2 (some ⟨g2, 0, none⟩) g2 n2 n2 b2 has asd (wi.alloc (.cells #[.string k, .int .i64 t1, .slice (some ⟨g1, 0, none⟩) n1 n1, .int .i64 t2, .slice (some ⟨g2, 0, none⟩) n2 n2, .int .i64 has, .bool asd] 30)) :=
  ⟨alloc_new wi _ rfl, .inr ⟨rfl, h1.below (below_lit wi _)⟩, .inr ⟨rfl, h2.below (below_lit wi _)⟩, hl1, hl2, Nat.le_refl _, (fun h => by cases h), Nat.le_refl _, (fun h => by cases h), h1.lt, h2.lt, by omega⟩
theorem boxR_out (hA : Apart wi (w.heap.size + 2) a1 c1 b1 a2 c2 b2) (hs : w.heap.size + 1 < wi.heap.size) (hl1 : b1.length = n1) (hl2 : b2.length = n2) :
    ∃ g1 g2, w.heap.size ≤ g1 ∧ w.heap.size ≤ g2 ∧ BoxR wi.heap.size k t1 a1 g1 n1 c1 b1 t2 a2 g2 n2 c2 b2 has asd (wi.alloc (.cells #[.string k, .int .i64 t1, .slice a1 n1 c1, .int .i64 t2, .slice a2 n2 c2, .int .i64 has, .bool asd] 30)) := by
  have hb := below_lit wi (.cells #[.string k, .int .i64 t1, .slice a1 n1 c1, .int .i64 t2, .slice a2 n2 c2, .int .i64 has, .bool asd] 30)
  rcases hA.one with ⟨rfl, rfl, rfl⟩ | ⟨q1, rfl, hq1, hO1⟩
  · simp at hl1
    subst hl1
    rcases hA.two with ⟨rfl, rfl, rfl⟩ | ⟨q2, rfl, hq2, hO2⟩
    · simp at hl2
      subst hl2
      exact ⟨w.heap.size, w.heap.size + 1, Nat.le_refl _, by omega, alloc_new wi _ rfl, .inl ⟨rfl, rfl⟩, .inl ⟨rfl, rfl⟩, rfl, rfl, Nat.le_refl _, fun _ => rfl, Nat.le_refl _, fun _ => rfl, by omega, hs, by omega⟩
    · exact ⟨w.heap.size, q2, Nat.le_refl _, by omega, alloc_new wi _ rfl, .inl ⟨rfl, rfl⟩, .inr ⟨rfl, hO2.row.below hb⟩, rfl, hl2, Nat.le_refl _, fun _ => rfl, by have := hO2.le; omega, (fun h => by cases h), by omega, hO2.lt, by omega⟩
  · rcases hA.two with ⟨rfl, rfl, rfl⟩ | ⟨q2, rfl, hq2, hO2⟩
    · simp at hl2
      subst hl2
      exact ⟨q1, w.heap.size + 1, by omega, by omega, alloc_new wi _ rfl, .inr ⟨rfl, hO1.row.below hb⟩, .inl ⟨rfl, rfl⟩, hl1, rfl, by have := hO1.le; omega, (fun h => by cases h), Nat.le_refl _, fun _ => rfl, hO1.lt, hs, by omega⟩
    · have hne : q1 ≠ q2 := fun e => hA.ne q1 rfl (by rw [e])
      exact ⟨q1, q2, by omega, by omega, alloc_new wi _ rfl, .inr ⟨rfl, hO1.row.below hb⟩, .inr ⟨rfl, hO2.row.below hb⟩, hl1, hl2, by have := hO1.le; omega, (fun h => by cases h), by have := hO2.le; omega, (fun h => by cases h), hO1.lt, hO2.lt, hne⟩
end
theorem RowOut.at_ {w : World} {k : ByteArray} {t1 : Int} {b1 : List UInt8} {t2 : Int} {b2 : List UInt8} {has : Int} {asd : Bool} {e : Ending} {w' : World} (h : RowOut w ⟨k, t1, b1, t2, b2, has, asd⟩ e w') :
    ∃ a1 n1 c1 a2 n2 c2, e = .returned (.agg #[.string k, .int .i64 t1, .slice a1 n1 c1, .int .i64 t2, .slice a2 n2 c2, .int .i64 has, .bool asd]) ∧ b1.length = n1 ∧ b2.length = n2 ∧ Apart w' (w.heap.size + 2) a1 c1 b1 a2 c2 b2 ∧ w.heap.size + 1 < w'.heap.size ∧ Below w.heap.size w w' := h.out
theorem fillR_len {r : RowD} (h1 : r.b1.length ≤ 1048576) (h2 : r.b2.length ≤ 1048576) : (fillR r).b1.length ≤ 1048576 ∧ (fillR r).b2.length ≤ 1048576 := by
  unfold fillR
  split
  · exact ⟨h1, h2⟩
  · split
    · exact ⟨h1, by have := nB_len r.t1 0 r.b1; show (nB r.t1 r.b1 0).length ≤ _; omega⟩
    · exact ⟨h1, h2⟩
theorem cutR_len {r : RowD} (h1 : r.b1.length ≤ 1048576) (h2 : r.b2.length ≤ 1048576) : (cutR r).b1.length ≤ 1048576 ∧ (cutR r).b2.length ≤ 1048576 := by
  unfold cutR
  split
  · exact ⟨h1, h2⟩
  · exact ⟨by show (0 : Nat) ≤ _; omega, h2⟩
theorem backR_len {r : RowD} (h1 : r.b1.length ≤ 1048576) (h2 : r.b2.length ≤ 1048576) : (backR r).b1.length ≤ 1048576 ∧ (backR r).b2.length ≤ 1048576 := by
  unfold backR
  split
  · exact ⟨h1, h2⟩
  · split
    · exact ⟨h1, by show (0 : Nat) ≤ _; omega⟩
    · exact ⟨h1, h2⟩

end Go.Proofs.YtpafjehphajbhabDoor
