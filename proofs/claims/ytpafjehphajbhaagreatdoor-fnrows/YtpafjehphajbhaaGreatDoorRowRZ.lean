/- What FnRows and FnTurned carry along: rows in their boxes; plain facts on rows that are filled, cut, turned back. Plain facts for FnRows; a cell of an array that lies in memory. -/
import Derived.Test.YtpafjehphajbhaaGreatDoorDrawRQ
import Derived.Test.YtpafjehphajbhaaGreatDoorRowIJ
namespace Go.Proofs.YtpafjehphajbhaaGreatDoor
set_option maxRecDepth 4000
open Go.RowKit

/-- A row that is small. -/
structure Small (r : RowD) : Prop where
  s1 : r.b1.length ≤ 81
  s2 : r.b2.length ≤ 81
  ks : r.key.size ≤ 7
theorem small_fill {r : RowD} (h : Small r) : Small (fillR r) := by
  obtain ⟨h1, h2⟩ := fill_81 h.s1 h.s2
  refine ⟨h1, h2, ?_⟩
  unfold fillR
  split
  · exact h.ks
  · split <;> exact h.ks
theorem small_back {r : RowD} (h : Small r) : Small (backR r) := by
  obtain ⟨h1, h2⟩ := back_81 h.s1 h.s2
  refine ⟨h1, h2, ?_⟩
  unfold backR
  split
  · exact h.ks
  · split <;> exact h.ks
theorem small_cut {r : RowD} (h : Small r) : Small (cutR r) := by
  unfold cutR
  split
  · exact h
  · exact ⟨Nat.zero_le _, h.s2, h.ks⟩
theorem bits_32 : bits .and .i64 3 2 = 2 := by kernel_rfl
theorem bits_22 : bits .and .i64 2 2 = 2 := by kernel_rfl
theorem bits_12 : bits .and .i64 1 2 = 0 := by kernel_rfl
/-- What becomes of a right row that is filled, and cut or turned back then. -/
theorem turned_cases {r f c b : RowD} (h : rOk r = true) (hf : fillR r = f) (hc : cutR f = c) (hb : backR f = b) :
    (r.has = 1 ∧ f.has = 3 ∧ c.has = 2 ∧ b.has = 1 ∧ b.t1 = r.t1 ∧ b.b1 = r.b1) ∨
    (r.has = 1 ∧ f.has = 1 ∧ f.aside = true ∧ c.has = 1 ∧ c.aside = true ∧ b.has = 1) ∨
    (r.has = 2 ∧ f.has = 2 ∧ c.has = 2 ∧ b.has = 2 ∧ b.aside = true) ∨
    (r.has = 3 ∧ f.has = 3 ∧ c.has = 2 ∧ b.has = 1) := by
  subst hc hb
  have hs := fill_stays h
  obtain ⟨hk, ⟨t1, b1, a, e, h1, h2⟩ | ⟨b2, a, e, h2⟩ | ⟨t1, b1, b2, a, e, h1, h2⟩⟩ := rOk_is h
  · generalize r.key = k at *
    subst e
    rw [fill_one h] at hs hf
    by_cases hn : nOk t1 b1 0 = true
    · rw [if_pos hn] at hs hf
      subst hf
      rw [cut_new hs.ok has_three.2, back_three hs.ok]
      exact .inl ⟨rfl, rfl, rfl, rfl, rfl, rfl⟩
    · rw [if_neg hn] at hs hf
      subst hf
      rw [cut_one, back_one]
      exact .inr (.inl ⟨rfl, rfl, rfl, rfl, rfl, rfl⟩)
  · have hn : newB r.has = true := by rw [e]; exact has_two.2
    rw [fill_two hn] at hf
    subst hf
    generalize r.key = k at *
    subst e
    rw [cut_new h has_two.2, back_two h]
    exact .inr (.inr (.inl ⟨rfl, rfl, rfl, rfl, rfl⟩))
  · have hn : newB r.has = true := by rw [e]; exact has_three.2
    rw [fill_two hn] at hf
    subst hf
    generalize r.key = k at *
    subst e
    rw [cut_new h has_three.2, back_three h]
    exact .inr (.inr (.inr ⟨rfl, rfl, rfl, rfl⟩))

/-- A row in its box d. -/
structure RBx (d : Nat) (k : ByteArray) (t1 : Int) (a1 : Option Addr) (n1 c1 : Nat) (b1 : List UInt8) (t2 : Int) (a2 : Option Addr) (n2 c2 : Nat) (b2 : List UInt8) (has : Int) (asd : Bool) (wi : World) : Prop where
  box : wi.heap[d]? = some (.cells #[.string k, .int .i64 t1, .slice a1 n1 c1, .int .i64 t2, .slice a2 n2 c2, .int .i64 has, .bool asd] 29 (0, 0))
  at1 : CellAt wi a1 n1 c1 b1
  at2 : CellAt wi a2 n2 c2 b2
  sm : Small ⟨k, t1, b1, t2, b2, has, asd⟩
section
variable {d : Nat} {k : ByteArray} {t1 : Int} {a1 : Option Addr} {n1 c1 : Nat} {b1 : List UInt8} {t2 : Int} {a2 : Option Addr} {n2 c2 : Nat} {b2 : List UInt8} {has : Int} {asd : Bool} {wi wj : World}
theorem RBx.below (h : RBx d k t1 a1 n1 c1 b1 t2 a2 n2 c2 b2 has asd wi) (hB : Below wi.heap.size wi wj) : RBx d k t1 a1 n1 c1 b1 t2 a2 n2 c2 b2 has asd wj :=
  ⟨(hB.block _ (lt_of_block h.box)).trans h.box, h.at1.below hB, h.at2.below hB, h.sm⟩
theorem rBx_new (h1 : CellAt wi a1 n1 c1 b1) (h2 : CellAt wi a2 n2 c2 b2) (hs : Small ⟨k, t1, b1, t2, b2, has, asd⟩) : RBx wi.heap.size k t1 a1 n1 c1 b1 t2 a2 n2 c2 b2 has asd (wi.alloc (.cells #[.string k, .int .i64 t1, .slice a1 n1 c1, .int .i64 t2, .slice a2 n2 c2, .int .i64 has, .bool asd] 29)) :=
  ⟨alloc_new wi _ rfl, h1.below (below_lit wi _), h2.below (below_lit wi _), hs⟩
theorem RBx.l1 (h : RBx d k t1 a1 n1 c1 b1 t2 a2 n2 c2 b2 has asd wi) : n1 ≤ 1048576 := by have := h.at1.size; have := h.sm.s1; simp only at this; omega
theorem RBx.l2 (h : RBx d k t1 a1 n1 c1 b1 t2 a2 n2 c2 b2 has asd wi) : n2 ≤ 1048576 := by have := h.at2.size; have := h.sm.s2; simp only at this; omega
theorem RBx.lk (h : RBx d k t1 a1 n1 c1 b1 t2 a2 n2 c2 b2 has asd wi) : k.size ≤ 1048576 := by have := h.sm.ks; simp only at this; omega
theorem RBx.cells (h : RBx d k t1 a1 n1 c1 b1 t2 a2 n2 c2 b2 has asd wi) (hB : Below wi.heap.size wi wj) : Cells7 d k t1 a1 n1 c1 t2 a2 n2 c2 has asd wj := cells7_at (h.below hB).box
end
theorem RightGot.at_ {w : World} {e : Ending} {w' : World} (h : RightGot w e w') : ∃ k t1 b1 t2 b2 has asd a1 n1 c1 a2 n2 c2, e = .returned (.agg #[.string k, .int .i64 t1, .slice a1 n1 c1, .int .i64 t2, .slice a2 n2 c2, .int .i64 has, .bool asd]) ∧ rOk ⟨k, t1, b1, t2, b2, has, asd⟩ = true ∧ Small ⟨k, t1, b1, t2, b2, has, asd⟩ ∧ CellAt w' a1 n1 c1 b1 ∧ CellAt w' a2 n2 c2 b2 ∧ Below w.heap.size w w' := by
  obtain ⟨⟨k, t1, b1, t2, b2, has, asd⟩, hok, a1, n1, c1, a2, n2, c2, he, h1, h2, h3, h4, h5, h6, h7, h8⟩ := h.out
  exact ⟨k, t1, b1, t2, b2, has, asd, a1, n1, c1, a2, n2, c2, he, hok, ⟨by rw [h1]; exact h2, by rw [h3]; exact h4, h5⟩, h6, h7, h8⟩
theorem RowGot.at_ {w : World} {e : Ending} {w' : World} (h : RowGot w e w') : ∃ k t1 b1 t2 b2 has asd a1 n1 c1 a2 n2 c2, e = .returned (.agg #[.string k, .int .i64 t1, .slice a1 n1 c1, .int .i64 t2, .slice a2 n2 c2, .int .i64 has, .bool asd]) ∧ Small ⟨k, t1, b1, t2, b2, has, asd⟩ ∧ CellAt w' a1 n1 c1 b1 ∧ CellAt w' a2 n2 c2 b2 ∧ Below w.heap.size w w' := by
  obtain ⟨⟨k, t1, b1, t2, b2, has, asd⟩, a1, n1, c1, a2, n2, c2, he, h1, h2, h3, h4, h5, h6, h7, h8⟩ := h.out
  exact ⟨k, t1, b1, t2, b2, has, asd, a1, n1, c1, a2, n2, c2, he, ⟨by rw [h1]; exact h2, by rw [h3]; exact h4, h5⟩, h6, h7, h8⟩

theorem small_rowV {p : Int} {k : ByteArray} {cs : Int} {s : List UInt8} (h : k.size ≤ 7) : Small (rowV p k cs s) := by
  obtain ⟨h1, h2⟩ := rowV_len p k cs s
  refine ⟨by omega, by omega, ?_⟩
  have h0 : (⟨#[]⟩ : ByteArray).size ≤ 7 := by decide
  unfold rowV
  split
  · exact h0
  · split
    · split
      · exact h
      · exact h0
    · split
      · exact h
      · split
        · split <;> exact h
        · split <;> exact h
theorem arr_cell {wi wj : World} {L : Nat} {cs : Array Value} {T : TypeId} (h : wi.heap[L]? = some (.cells cs T (0, 0))) (hb : Below wi.heap.size wi wj) (j : Nat) (v : Value) (hv : cs[j]? = some v) : wj.cell? ⟨L, j, none⟩ = some v := by
  rw [cell_of_row wj L j cs T (0, 0) ((hb.block _ (lt_of_block h)).trans h), hv]
theorem text_back (st : ByteArray) : (⟨st.data.toList.toArray⟩ : ByteArray) = st := by cases st; simp

end Go.Proofs.YtpafjehphajbhaaGreatDoor
