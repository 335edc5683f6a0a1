/- Contracts of what the laws do with a row: its size, a copy of it, whether two are alike, and the marks of its memory. -/
import Derived.Test.YtpafjehphajbhabDoorCellS
import Derived.Test.YtpafjehphajbhabDoorBoxA
namespace Go.Proofs.YtpafjehphajbhabDoor
set_option maxRecDepth 4000
open Go.RowKit

/-- A block of seven cells that may be written: its cells. -/
theorem cells7 (w : World) (g : Nat) (a0 a1 a2 a3 a4 a5 a6 : Value) (T : TypeId) (hg : w.heap[g]? = some (.cells #[a0, a1, a2, a3, a4, a5, a6] T (0, 0))) :
    w.cell? ⟨g, 0, none⟩ = some a0 ∧ w.cell? ⟨g, 1, none⟩ = some a1 ∧ w.cell? ⟨g, 2, none⟩ = some a2 ∧ w.cell? ⟨g, 3, none⟩ = some a3 ∧ w.cell? ⟨g, 4, none⟩ = some a4 ∧ w.cell? ⟨g, 5, none⟩ = some a5 ∧ w.cell? ⟨g, 6, none⟩ = some a6 := by
  refine ⟨?_, ?_, ?_, ?_, ?_, ?_, ?_⟩
  · rw [cell_of_row w g 0 _ _ (0, 0) hg]; rfl
  · rw [cell_of_row w g 1 _ _ (0, 0) hg]; rfl
  · rw [cell_of_row w g 2 _ _ (0, 0) hg]; rfl
  · rw [cell_of_row w g 3 _ _ (0, 0) hg]; rfl
  · rw [cell_of_row w g 4 _ _ (0, 0) hg]; rfl
  · rw [cell_of_row w g 5 _ _ (0, 0) hg]; rfl
  · rw [cell_of_row w g 6 _ _ (0, 0) hg]; rfl
theorem free7 (w : World) (g : Nat) (a0 a1 a2 a3 a4 a5 a6 : Value) (T : TypeId) (hg : w.heap[g]? = some (.cells #[a0, a1, a2, a3, a4, a5, a6] T (0, 0))) :
    w.frozen? ⟨g, 0, none⟩ = false ∧ w.frozen? ⟨g, 1, none⟩ = false ∧ w.frozen? ⟨g, 2, none⟩ = false ∧ w.frozen? ⟨g, 3, none⟩ = false ∧ w.frozen? ⟨g, 4, none⟩ = false ∧ w.frozen? ⟨g, 5, none⟩ = false ∧ w.frozen? ⟨g, 6, none⟩ = false :=
  ⟨frozen_of_row w g 0 _ _ hg, frozen_of_row w g 1 _ _ hg, frozen_of_row w g 2 _ _ hg, frozen_of_row w g 3 _ _ hg, frozen_of_row w g 4 _ _ hg, frozen_of_row w g 5 _ _ hg, frozen_of_row w g 6 _ _ hg⟩
/-- One cell of a block, written. -/
theorem set_at {w : World} {g j : Nat} {cs : Array Value} {T : TypeId} (v : Value) (hg : w.heap[g]? = some (.cells cs T (0, 0))) : (w.setCell ⟨g, j, none⟩ v).heap[g]? = some (.cells (cs.setIfInBounds j v) T (0, 0)) := heap_setCell_same w g j _ _ _ hg
/-- A block of seven cells, all of them written. -/
theorem set7 {w : World} {g : Nat} {a0 a1 a2 a3 a4 a5 a6 : Value} {T : TypeId} (x0 x1 x2 x3 x4 x5 x6 : Value) (hg : w.heap[g]? = some (.cells #[a0, a1, a2, a3, a4, a5, a6] T (0, 0))) :
    (((((((w.setCell ⟨g, 0, none⟩ x0).setCell ⟨g, 1, none⟩ x1).setCell ⟨g, 2, none⟩ x2).setCell ⟨g, 3, none⟩ x3).setCell ⟨g, 4, none⟩ x4).setCell ⟨g, 5, none⟩ x5).setCell ⟨g, 6, none⟩ x6).heap[g]? = some (.cells #[x0, x1, x2, x3, x4, x5, x6] T (0, 0)) := by
  rw [set_at x6 (set_at x5 (set_at x4 (set_at x3 (set_at x2 (set_at x1 (set_at x0 hg))))))]
  simp

/-- What is left of a size. -/
def leftRow (ks n1 n2 : Nat) : Int := if (1048576 : Int) < (ks : Int) + (n1 : Int) + (n2 : Int) then -1 else 1048576 - (ks : Int) - (n1 : Int) - (n2 : Int)
set_option maxHeartbeats 400000 in
theorem szRow_n (k : ByteArray) (t1 : Int) (a1 : Option Addr) (n1 c1 : Nat) (t2 : Int) (a2 : Option Addr) (n2 c2 : Nat) (has : Int) (asd : Bool) (w : World) (hk : Hd (k.size ≤ maxLen)) (h1 : Hd (n1 ≤ maxLen)) (h2 : Hd (n2 ≤ maxLen)) :
    Calls Tryd.prog 8 #[.agg #[.string k, .int .i64 t1, .slice a1 n1 c1, .int .i64 t2, .slice a2 n2 c2, .int .i64 has, .bool asd], .int .i64 1048576] w fun e w' => e = .returned (.int .i64 (leftRow k.size n1 n2)) ∧ Below w.heap.size w w' := by
  have hw : wrap64 (1048576 - (k.size : Int)) = 1048576 - (k.size : Int) := by have := hk.out; unfold maxLen at *; exact wrap64_in (by omega) (by omega)
  by_cases hA : (1048576 : Int) < (k.size : Int)
  · have E : leftRow k.size n1 n2 = -1 := if_pos (by omega)
    rw [E]
    have hz : (1048576 : Int) - (k.size : Int) < 0 := by omega
    clear hk h1 h2 E hA
    go_enter Tryd.func8, Tryd.ntmps8
    go_wp2_with fail
    go_ret
    exact ⟨rfl, below_lit w _⟩
  · have hz : ¬ (1048576 : Int) - (k.size : Int) < 0 := by omega
    by_cases hB : (1048576 : Int) - (k.size : Int) < (n1 : Int)
    · have E : leftRow k.size n1 n2 = -1 := if_pos (by omega)
      rw [E]
      have F : Hd (leftOf (1048576 - (k.size : Int)) n1 = -1) := ⟨if_pos hB⟩
      have G : Hd (0 ≤ (1048576 : Int) - (k.size : Int) ∧ (1048576 : Int) - (k.size : Int) ≤ 1048576) := ⟨by omega, by omega⟩
      clear E hB hA
      go_enter Tryd.func8, Tryd.ntmps8
      go_wp2_with fail
      refine (szCell_n t1 a1 n1 c1 (1048576 - (k.size : Int)) _ h1 G).mono ?_
      rintro e w1 ⟨rfl, hB1⟩
      rewrite [F.out]
      have B1 : Hd (Below w.heap.size w w1) := ⟨Below.next (below_lit w _) hB1⟩
      clear hB1
      go_wp2_with fail
      go_ret
      exact ⟨rfl, B1.out⟩
    · have F : Hd (leftOf (1048576 - (k.size : Int)) n1 = 1048576 - (k.size : Int) - (n1 : Int)) := ⟨if_neg hB⟩
      have G : Hd (0 ≤ (1048576 : Int) - (k.size : Int) ∧ (1048576 : Int) - (k.size : Int) ≤ 1048576) := ⟨by omega, by omega⟩
      have G2 : Hd (0 ≤ (1048576 : Int) - (k.size : Int) - (n1 : Int) ∧ (1048576 : Int) - (k.size : Int) - (n1 : Int) ≤ 1048576) := ⟨by omega, by omega⟩
      have hz2 : ¬ (1048576 : Int) - (k.size : Int) - (n1 : Int) < 0 := by omega
      have F2 : Hd (leftOf (1048576 - (k.size : Int) - (n1 : Int)) n2 = leftRow k.size n1 n2) := ⟨by
        unfold leftOf leftRow
        by_cases hC : (1048576 : Int) - (k.size : Int) - (n1 : Int) < (n2 : Int)
        · rw [if_pos hC, if_pos (by omega)]
        · rw [if_neg hC, if_neg (by omega)]⟩
      obtain ⟨l, hl⟩ : ∃ l, leftRow k.size n1 n2 = l := ⟨_, rfl⟩
      have HL : Hd (leftRow k.size n1 n2 = l) := ⟨hl⟩
      rw [hl]
      have hd : l = -1 ∨ ¬ l < 0 := by
        rw [← hl]; unfold leftRow
        by_cases hC : (1048576 : Int) < (k.size : Int) + (n1 : Int) + (n2 : Int)
        · rw [if_pos hC]; exact .inl rfl
        · rw [if_neg hC]; exact .inr (by omega)
      clear hl hB hA
      go_enter Tryd.func8, Tryd.ntmps8
      go_wp2_with fail
      refine (szCell_n t1 a1 n1 c1 (1048576 - (k.size : Int)) _ h1 G).mono ?_
      rintro e w1 ⟨rfl, hB1⟩
      rewrite [F.out]
      have B1 : Hd (Below w.heap.size w w1) := ⟨Below.next (below_lit w _) hB1⟩
      obtain ⟨_, _, _, x3, x4, _, _⟩ := cells7 w1 w.heap.size _ _ _ _ _ _ _ _ ((hB1.block w.heap.size (by simp)).trans (heap_alloc_new w _))
      clear hB1
      go_wp2_with fail
      refine (szCell_n t2 a2 n2 c2 (1048576 - (k.size : Int) - (n1 : Int)) _ h2 G2).mono ?_
      rintro e w2 ⟨rfl, hB2⟩
      rewrite [F2.out, HL.out]
      have B2 : Hd (Below w.heap.size w w2) := ⟨Below.next B1.out hB2⟩
      clear hB2 x3 x4 B1
      rcases hd with rfl | hd
      · go_wp2_with fail
        go_ret
        exact ⟨rfl, B2.out⟩
      · go_wp2_with fail
        go_ret
        exact ⟨rfl, B2.out⟩

set_option maxHeartbeats 400000 in
theorem eqRow_true (k : ByteArray) (t1 : Int) (a1 : Option Addr) (n1 c1 : Nat) (t2 : Int) (a2 : Option Addr) (n2 c2 : Nat) (has : Int) (asd : Bool) (d1 : Option Addr) (e1 : Nat) (d2 : Option Addr) (e2 : Nat) (b1 b2 : List UInt8) (w : World)
    (hl1 : n1 ≤ 1073741824) (hl2 : n2 ≤ 1073741824) (h1 : Reads w a1 n1 b1) (h2 : Reads w a2 n2 b2) (h3 : Reads w d1 n1 b1) (h4 : Reads w d2 n2 b2) :
    Calls Tryd.prog 12 #[.agg #[.string k, .int .i64 t1, .slice a1 n1 c1, .int .i64 t2, .slice a2 n2 c2, .int .i64 has, .bool asd], .agg #[.string k, .int .i64 t1, .slice d1 n1 e1, .int .i64 t2, .slice d2 n2 e2, .int .i64 has, .bool asd]] w fun e w' => e = .returned (.bool true) ∧ Below w.heap.size w w' := by
  have H1 : Hd (Reads w a1 n1 b1) := ⟨h1⟩
  have H2 : Hd (Reads w a2 n2 b2) := ⟨h2⟩
  have H3 : Hd (Reads w d1 n1 b1) := ⟨h3⟩
  have H4 : Hd (Reads w d2 n2 b2) := ⟨h4⟩
  clear h1 h2 h3 h4
  have f1 : (k.toList != k.toList) = false := by simp
  have f2 : (has != has) = false := by simp
  have f3 : (asd != asd) = false := by simp
  go_enter Tryd.func12, Tryd.ntmps12
  go_wp2_with fail
  generalize hA : Obj.cells #[Value.string k, .int .i64 t1, .slice a1 n1 c1, .int .i64 t2, .slice a2 n2 c2, .int .i64 has, .bool asd] 30 = A
  generalize hB : Obj.cells #[Value.string k, .int .i64 t1, .slice d1 n1 e1, .int .i64 t2, .slice d2 n2 e2, .int .i64 has, .bool asd] 30 = B
  have h0 : Below w.heap.size w ((w.alloc A).alloc B) := below_lit2 w A B
  refine (eqCell_true t1 a1 d1 c1 e1 n1 b1 _ hl1 (H1.out.below rfl h0) (H3.out.below rfl h0)).mono ?_
  rintro e w1 ⟨rfl, hb⟩
  obtain ⟨l1, l2⟩ := laid2 w A B
  subst hA hB
  have K1 : Hd (w1.heap[w.heap.size]? = some (.cells #[.string k, .int .i64 t1, .slice a1 n1 c1, .int .i64 t2, .slice a2 n2 c2, .int .i64 has, .bool asd] 30 (0, 0))) := ⟨(hb.block _ (by simp; omega)).trans l1⟩
  have K2 : Hd (w1.heap[w.heap.size + 1]? = some (.cells #[.string k, .int .i64 t1, .slice d1 n1 e1, .int .i64 t2, .slice d2 n2 e2, .int .i64 has, .bool asd] 30 (0, 0))) := ⟨(hb.block _ (by simp)).trans l2⟩
  have B1 : Hd (Below w.heap.size w w1) := ⟨Below.next h0 hb⟩
  obtain ⟨_, _, _, x3, x4, _, _⟩ := cells7 w1 w.heap.size _ _ _ _ _ _ _ _ K1.out
  obtain ⟨_, _, _, y3, y4, _, _⟩ := cells7 w1 (w.heap.size + 1) _ _ _ _ _ _ _ _ K2.out
  clear hb h0 l1 l2
  go_wp2_with fail
  refine (eqCell_true t2 a2 d2 c2 e2 n2 b2 _ hl2 (H2.out.below rfl B1.out) (H4.out.below rfl B1.out)).mono ?_
  rintro e w2 ⟨rfl, hb⟩
  obtain ⟨_, _, _, _, _, x5, x6⟩ := cells7 w2 w.heap.size _ _ _ _ _ _ _ _ ((hb.block _ (lt_of_block K1.out)).trans K1.out)
  obtain ⟨_, _, _, _, _, y5, y6⟩ := cells7 w2 (w.heap.size + 1) _ _ _ _ _ _ _ _ ((hb.block _ (lt_of_block K2.out)).trans K2.out)
  have B2 : Hd (Below w.heap.size w w2) := ⟨Below.next B1.out hb⟩
  clear hb x3 x4 y3 y4 K1 K2 B1
  go_wp2_with fail
  go_ret
  exact ⟨rfl, B2.out⟩

/-- What marks leave: two blocks were written. -/
structure Marked2 (w : World) (g1 g2 : Nat) (w' : World) : Prop where
  two : ∃ wm, w.grownBy wm (some g1) ∧ wm.grownBy w' (some g2)

set_option maxHeartbeats 400000 in
theorem markRow_o (k : ByteArray) (t1 : Int) (a1 : Option Addr) (g1 n1 c1 : Nat) (t2 : Int) (a2 : Option Addr) (g2 n2 c2 : Nat) (has : Int) (asd : Bool) (m : Nat) (b1 b2 : List UInt8) (w : World)
    (e1 : b1.length = n1) (e2 : b2.length = n2) (h1 : RowO w a1 g1 b1) (h2 : RowO w a2 g2 b2) (hne : g1 ≠ g2) (hg1 : g1 < w.heap.size) (hg2 : g2 < w.heap.size) (hl1 : n1 ≤ 1073741824) (hl2 : n2 ≤ 1073741824) (hm : m ≤ 1073741824) :
    Calls Tryd.prog 13 #[.agg #[.string k, .int .i64 t1, .slice a1 n1 c1, .int .i64 t2, .slice a2 n2 c2, .int .i64 has, .bool asd], .int .i64 (m : Int)] w fun e w' => e = .returned (.int .i64 ((m + n1 + n2 : Nat) : Int)) ∧ RowO w' a1 g1 (marks m n1) ∧ RowO w' a2 g2 (marks (m + n1) n2) ∧ Marked2 w g1 g2 w' := by
  have E1 : Hd (b1.length = n1) := ⟨e1⟩
  have E2 : Hd (b2.length = n2) := ⟨e2⟩
  have H1 : Hd (RowO w a1 g1 b1) := ⟨h1⟩
  have H2 : Hd (RowO w a2 g2 b2) := ⟨h2⟩
  have NE : Hd (g1 ≠ g2 ∧ g1 < w.heap.size ∧ g2 < w.heap.size) := ⟨hne, hg1, hg2⟩
  clear e1 e2 h1 h2 hne hg1 hg2
  go_enter Tryd.func13, Tryd.ntmps13
  go_wp2_with fail
  refine (markCell_o t1 a1 g1 n1 c1 m b1 _ E1.out (H1.out.below (below_lit w _)) hl1 (by omega)).mono ?_
  rintro e w1 ⟨rfl, hR1, hG1⟩
  have K1 : Hd (w1.heap[w.heap.size]? = some (.cells #[.string k, .int .i64 t1, .slice a1 n1 c1, .int .i64 t2, .slice a2 n2 c2, .int .i64 has, .bool asd] 30 (0, 0))) := ⟨grown_block hG1 (alloc_new w _ rfl) (by have := NE.out; omega)⟩
  have R1 : Hd (RowO w1 a1 g1 (marks m n1)) := ⟨hR1⟩
  have S1 : Hd (RowO w1 a2 g2 b2) := ⟨(H2.out.below (below_lit w _)).grown hG1 (by have := NE.out; omega)⟩
  have G1 : Hd (w.grownBy w1 (some g1)) := ⟨grown_of_alloc hG1⟩
  obtain ⟨_, _, _, x3, x4, _, _⟩ := cells7 w1 w.heap.size _ _ _ _ _ _ _ _ K1.out
  clear hR1 hG1 H1 H2
  go_wp2_with fail
  refine (markCell_o t2 a2 g2 n2 c2 (m + n1) b2 _ E2.out S1.out hl2 (by omega)).mono ?_
  rintro e w2 ⟨rfl, hR2, hG2⟩
  have R2 : Hd (RowO w2 a2 g2 (marks (m + n1) n2)) := ⟨hR2⟩
  have Q1 : Hd (RowO w2 a1 g1 (marks m n1)) := ⟨R1.out.grown hG2 (by have := NE.out; omega)⟩
  have G2 : Hd (w1.grownBy w2 (some g2)) := ⟨hG2⟩
  clear hR2 hG2 x3 x4 K1 R1 S1
  go_wp2_with fail
  go_ret
  exact ⟨rfl, Q1.out, R2.out, w1, G1.out, G2.out⟩

set_option maxHeartbeats 400000 in
theorem heldRow_o (k : ByteArray) (t1 : Int) (a1 : Option Addr) (g1 n1 c1 : Nat) (t2 : Int) (a2 : Option Addr) (g2 n2 c2 : Nat) (has : Int) (asd : Bool) (m : Nat) (w : World)
    (h1 : RowO w a1 g1 (marks m n1)) (h2 : RowO w a2 g2 (marks (m + n1) n2)) (hl1 : n1 ≤ 1073741824) (hl2 : n2 ≤ 1073741824) (hm : m ≤ 1073741824) :
    Calls Tryd.prog 14 #[.agg #[.string k, .int .i64 t1, .slice a1 n1 c1, .int .i64 t2, .slice a2 n2 c2, .int .i64 has, .bool asd], .int .i64 (m : Int)] w fun e w' => e = .returned (.int .i64 ((m + n1 + n2 : Nat) : Int)) ∧ Below w.heap.size w w' := by
  have H1 : Hd (RowO w a1 g1 (marks m n1)) := ⟨h1⟩
  have H2 : Hd (RowO w a2 g2 (marks (m + n1) n2)) := ⟨h2⟩
  have z1 : ¬ ((m + n1 : Nat) : Int) < 0 := by omega
  have z2 : ¬ ((m + n1 + n2 : Nat) : Int) < 0 := by omega
  clear h1 h2
  go_enter Tryd.func14, Tryd.ntmps14
  go_wp2_with fail
  refine (heldCell_o t1 a1 g1 n1 c1 m _ (H1.out.below (below_lit w _)) hl1 (by omega)).mono ?_
  rintro e w1 ⟨rfl, hB⟩
  have B1 : Hd (Below w.heap.size w w1) := ⟨Below.next (below_lit w _) hB⟩
  obtain ⟨_, _, _, x3, x4, _, _⟩ := cells7 w1 w.heap.size _ _ _ _ _ _ _ _ ((hB.block w.heap.size (by simp)).trans (heap_alloc_new w _))
  clear hB
  go_wp2_with fail
  refine (heldCell_o t2 a2 g2 n2 c2 (m + n1) _ (H2.out.below B1.out) hl2 (by omega)).mono ?_
  rintro e w2 ⟨rfl, hB⟩
  have B2 : Hd (Below w.heap.size w w2) := ⟨Below.next B1.out hB⟩
  clear hB x3 x4 B1
  go_wp2_with fail
  go_ret
  exact ⟨rfl, B2.out⟩

end Go.Proofs.YtpafjehphajbhabDoor
