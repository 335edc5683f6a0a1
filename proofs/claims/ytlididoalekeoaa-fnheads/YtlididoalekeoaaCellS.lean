/- Contracts of what the laws do with a cell: its size, a copy of it, whether two are alike, and the marks of its memory. -/
import Derived.Test.YtlididoalekeoaaBlocks
import Derived.Test.YtlididoalekeoaaRowOs
namespace Go.Proofs.Ytlididoalekeoaa
set_option maxRecDepth 4000
open Go.RowKit

/-- A cell, as a value. -/
def cellV (tag : Int) (ao : Option Addr) (n c : Nat) : Value := .agg #[.int .i64 tag, .slice ao n c]

/-- What is left of a size. -/
def leftOf (n : Int) (len : Nat) : Int := if n < (len : Int) then -1 else n - (len : Int)
set_option maxHeartbeats 400000 in
theorem szByteS_n (ao : Option Addr) (len cap : Nat) (n : Int) (w : World) (hl : Hd (len ≤ maxLen)) (hn : Hd (0 ≤ n ∧ n ≤ 1048576)) :
    Calls Try.prog 106 #[.slice ao len cap, .int .i64 n] w fun e w' => e = .returned (.int .i64 (leftOf n len)) ∧ w = w' := by
  have hw : wrap64 (n - (len : Int)) = n - (len : Int) := by have := hl.out; have := hn.out; unfold maxLen at *; exact wrap64_in (by omega) (by omega)
  clear hl hn
  by_cases h : n < (len : Int)
  · rw [leftOf, if_pos h]
    have h2 : n - (len : Int) < 0 := by omega
    go_enter Try.func106, Try.ntmps106
    go_wp2
    go_ret
    exact ⟨rfl, rfl⟩
  · rw [leftOf, if_neg h]
    have h2 : ¬ n - (len : Int) < 0 := by omega
    go_enter Try.func106, Try.ntmps106
    go_wp2
    go_ret
    exact ⟨rfl, rfl⟩

set_option maxHeartbeats 400000 in
theorem szCell_n (tag : Int) (ao : Option Addr) (len cap : Nat) (n : Int) (w : World) (hl : Hd (len ≤ maxLen)) (hn : Hd (0 ≤ n ∧ n ≤ 1048576)) :
    Calls Try.prog 102 #[.agg #[.int .i64 tag, .slice ao len cap], .int .i64 n] w fun e w' => e = .returned (.int .i64 (leftOf n len)) ∧ Below w.heap.size w w' := by
  by_cases h : n < (len : Int)
  · have E : Hd (leftOf n len = -1) := ⟨if_pos h⟩
    rw [E.out]
    go_enter Try.func102, Try.ntmps102
    go_wp2_with fail
    refine (szByteS_n ao len cap n _ hl hn).mono ?_
    rintro e w1 ⟨rfl, hw⟩
    subst hw
    rewrite [E.out]
    go_wp2_with fail
    go_ret
    exact ⟨rfl, below_lit w _⟩
  · have E : Hd (leftOf n len = n - (len : Int)) := ⟨if_neg h⟩
    have h2 : ¬ n - (len : Int) < 0 := by omega
    rw [E.out]
    go_enter Try.func102, Try.ntmps102
    go_wp2_with fail
    refine (szByteS_n ao len cap n _ hl hn).mono ?_
    rintro e w1 ⟨rfl, hw⟩
    subst hw
    rewrite [E.out]
    go_wp2_with fail
    go_ret
    exact ⟨rfl, below_lit w _⟩

set_option maxHeartbeats 400000 in
theorem toCell_any (tag : Int) (ao : Option Addr) (len cap : Nat) (bs : List UInt8) (w : World) (hr : Reads w ao len bs) (hl : len ≤ 1073741824) :
    Calls Try.prog 103 #[.agg #[.int .i64 tag, .slice ao len cap]] w fun e w' => ∃ g, e = .returned (.agg #[.int .i64 tag, .slice (some ⟨g, 0, none⟩) len len]) ∧ w.heap.size ≤ g ∧ Row w' g bs ∧ Below w.heap.size w w' := by
  have Hr : Hd (Reads w ao len bs) := ⟨hr⟩
  clear hr
  go_enter Try.func103, Try.ntmps103
  go_wp2_with fail
  generalize hA : Obj.cells #[Value.int IntKind.i64 tag, Value.slice ao len cap] 121 = A
  generalize hB : Obj.cells #[Value.int IntKind.i64 0, Value.slice none 0 0] 82 = B
  generalize hC : Obj.cells #[Value.int IntKind.i64 tag, Value.slice none 0 0] 82 = C
  have h3 : Below w.heap.size w (((w.alloc A).alloc B).alloc C) := below_lit3 w A B C
  refine (toByteS_any ao len cap bs _ (Hr.out.below rfl h3) hl).mono ?_
  rintro e w1 ⟨rfl, hR, hb⟩
  obtain ⟨l0, l1, l2⟩ := laid3 w A B C
  subst hA hB hC
  obtain ⟨a0, a1, _, _⟩ := cells2 w1 w.heap.size _ _ _ ((hb.block w.heap.size (by simp; omega)).trans l0)
  obtain ⟨b0, b1, b3, b4⟩ := cells2 w1 (w.heap.size + 1) _ _ _ ((hb.block (w.heap.size + 1) (by simp)).trans l1)
  obtain ⟨c0, c1, c3, c4⟩ := cells2 w1 (w.heap.size + 1 + 1) _ _ _ ((hb.block (w.heap.size + 1 + 1) (by simp)).trans l2)
  have HK : Hd (w1.heap[w.heap.size + 1]? = some (.cells #[.int .i64 0, .slice none 0 0] 82 (0, 0))) := ⟨(hb.block (w.heap.size + 1) (by simp)).trans l1⟩
  have HB : Hd (Below w.heap.size w w1) := ⟨Below.next h3 hb⟩
  simp only [World.size_alloc] at hR ⊢
  have HR : Hd (Row w1 (w.heap.size + 1 + 1 + 1) bs) := ⟨hR⟩
  clear hR hb h3 l0 l1 l2
  go_wp2_with fail
  refine bodyPost_ret (results_cell_row rfl _ _ (w.heap.size + 1) _ _ (0, 0) _ rfl (set2 _ _ (block_set HK.out (by omega))) Try.underlying82 rfl (by kernel_rfl)) rfl ?_
  refine ⟨_, rfl, by omega, ?_, ?_⟩
  · exact ((HR.out.set _ (by omega)).set _ (by omega)).set _ (by omega)
  · exact bset (bset (bset HB.out _ (by omega)) _ (by omega)) _ (by omega)

set_option maxHeartbeats 400000 in
theorem eqCell_true (tag : Int) (a1 a2 : Option Addr) (c1 c2 len : Nat) (bs : List UInt8) (w : World) (hl : len ≤ 1073741824) (h1 : Reads w a1 len bs) (h2 : Reads w a2 len bs) :
    Calls Try.prog 105 #[.agg #[.int .i64 tag, .slice a1 len c1], .agg #[.int .i64 tag, .slice a2 len c2]] w fun e w' => e = .returned (.bool true) ∧ Below w.heap.size w w' := by
  have H1 : Hd (Reads w a1 len bs) := ⟨h1⟩
  have H2 : Hd (Reads w a2 len bs) := ⟨h2⟩
  clear h1 h2
  have f1 : (tag != tag) = false := by simp
  go_enter Try.func105, Try.ntmps105
  go_wp2_with fail
  generalize hA : Obj.cells #[Value.int IntKind.i64 tag, Value.slice a1 len c1] 82 = A
  generalize hB : Obj.cells #[Value.int IntKind.i64 tag, Value.slice a2 len c2] 82 = B
  have h3 : Below w.heap.size w ((w.alloc A).alloc B) := below_lit2 w A B
  refine (eqByteS_true a1 a2 c1 c2 len bs _ hl (H1.out.below rfl h3) (H2.out.below rfl h3)).mono ?_
  rintro e w1 ⟨rfl, hb⟩
  have HB : Hd (Below w.heap.size w w1) := ⟨Below.next h3 hb⟩
  clear hb h3 hA hB
  go_wp2_with fail
  go_ret
  exact ⟨rfl, HB.out⟩

end Go.Proofs.Ytlididoalekeoaa
