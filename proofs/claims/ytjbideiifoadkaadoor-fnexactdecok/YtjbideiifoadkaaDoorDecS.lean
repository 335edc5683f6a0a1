/- Contracts of what the laws do with a state: its size, a copy of it, whether two are alike, and the marks of its memory. -/
import Derived.Test.YtjbideiifoadkaaDoorBlocks
namespace Go.Proofs.YtjbideiifoadkaaDoor
set_option maxRecDepth 4000
open Go.RowKit

set_option maxHeartbeats 400000 in
theorem szByteS_any (ao : Option Addr) (len cap : Nat) (n : Int) (w : World) (hl : Hd (len ≤ maxLen)) (hn : Hd (n = 1048576)) :
    Calls Tryd.prog 45 #[.slice ao len cap, .int .i64 n] w fun e w' => e = .returned (.int .i64 (if 1048576 < len then -1 else 1048576 - (len : Int))) ∧ w = w' := by
  obtain ⟨rfl⟩ := hn
  have hw : wrap64 (1048576 - (len : Int)) = 1048576 - (len : Int) := by have := hl.out; unfold maxLen at this; exact wrap64_in (by omega) (by omega)
  clear hl
  by_cases h : 1048576 < len
  · rw [if_pos h]
    have h2 : (1048576 : Int) - (len : Int) < 0 := by omega
    go_enter Tryd.func45, Tryd.ntmps45
    go_wp2
    go_ret
    exact ⟨rfl, rfl⟩
  · rw [if_neg h]
    have h2 : ¬ (1048576 : Int) - (len : Int) < 0 := by omega
    go_enter Tryd.func45, Tryd.ntmps45
    go_wp2
    go_ret
    exact ⟨rfl, rfl⟩

set_option maxHeartbeats 400000 in
theorem toDec_any (cs : Int) (ao : Option Addr) (len cap : Nat) (bad : Bool) (bs : List UInt8) (w : World) (hr : Reads w ao len bs) (hl : len ≤ 1073741824) :
    Calls Tryd.prog 25 #[.agg #[.int .i64 cs, .slice ao len cap, .bool bad]] w fun e w' => ∃ g, e = .returned (.agg #[.int .i64 cs, .slice (some ⟨g, 0, none⟩) len len, .bool bad]) ∧ w.heap.size ≤ g ∧ Row w' g bs ∧ Below w.heap.size w w' := by
  have Hr : Hd (Reads w ao len bs) := ⟨hr⟩
  clear hr
  go_enter Tryd.func25, Tryd.ntmps25
  go_wp2_with fail
  generalize hA : Obj.cells #[Value.int IntKind.i64 cs, Value.slice ao len cap, Value.bool bad] 39 = A
  generalize hB : Obj.cells #[Value.int IntKind.i64 0, Value.slice none 0 0, Value.bool false] 30 = B
  generalize hC : Obj.cells #[Value.int IntKind.i64 cs, Value.slice none 0 0, Value.bool false] 30 = C
  have h3 : Below w.heap.size w (((w.alloc A).alloc B).alloc C) := below_lit3 w A B C
  refine (toByteS_any ao len cap bs _ (Hr.out.below rfl h3) hl).mono ?_
  rintro e w1 ⟨rfl, hR, hb⟩
  obtain ⟨l0, l1, l2⟩ := laid3 w A B C
  subst hA hB hC
  obtain ⟨a0, a1, a2, _, _, _⟩ := cells3 w1 w.heap.size _ _ _ _ ((hb.block w.heap.size (by simp; omega)).trans l0)
  obtain ⟨b0, b1, b2, b3, b4, b5⟩ := cells3 w1 (w.heap.size + 1) _ _ _ _ ((hb.block (w.heap.size + 1) (by simp)).trans l1)
  obtain ⟨c0, c1, c2, c3, c4, c5⟩ := cells3 w1 (w.heap.size + 1 + 1) _ _ _ _ ((hb.block (w.heap.size + 1 + 1) (by simp)).trans l2)
  have HK : Hd (w1.heap[w.heap.size + 1]? = some (.cells #[.int .i64 0, .slice none 0 0, .bool false] 30 (0, 0))) := ⟨(hb.block (w.heap.size + 1) (by simp)).trans l1⟩
  have HB : Hd (Below w.heap.size w w1) := ⟨Below.next h3 hb⟩
  simp only [World.size_alloc] at hR ⊢
  have HR : Hd (Row w1 (w.heap.size + 1 + 1 + 1) bs) := ⟨hR⟩
  clear hR hb h3 l0 l1 l2
  go_wp2_with fail
  refine bodyPost_ret (results_cell_row rfl _ _ (w.heap.size + 1) _ _ (0, 0) _ rfl (set3 _ _ _ (block_set (block_set HK.out (by omega)) (by omega))) Tryd.underlying30 rfl (by kernel_rfl)) rfl ?_
  refine ⟨_, rfl, by omega, ?_, ?_⟩
  · exact ((((HR.out.set _ (by omega)).set _ (by omega)).set _ (by omega)).set _ (by omega)).set _ (by omega)
  · exact bset (bset (bset (bset (bset HB.out _ (by omega)) _ (by omega)) _ (by omega)) _ (by omega)) _ (by omega)

set_option maxHeartbeats 400000 in
theorem szDec_any (cs : Int) (ao : Option Addr) (len cap : Nat) (bad : Bool) (n : Int) (w : World) (hl : Hd (len ≤ maxLen)) (hn : Hd (n = 1048576)) :
    Calls Tryd.prog 24 #[.agg #[.int .i64 cs, .slice ao len cap, .bool bad], .int .i64 n] w fun e w' => e = .returned (.int .i64 (if 1048576 < len then -1 else 1048576 - (len : Int))) ∧ Below w.heap.size w w' := by
  go_enter Tryd.func24, Tryd.ntmps24
  go_wp2_with fail
  refine (szByteS_any ao len cap n _ hl hn).mono ?_
  rintro e w1 ⟨rfl, hw⟩
  subst hw
  by_cases h : 1048576 < len
  · rw [if_pos h]
    go_wp2_with fail
    go_ret
    exact ⟨rfl, below_lit w _⟩
  · rw [if_neg h]
    have h2 : ¬ (1048576 : Int) - (len : Int) < 0 := by omega
    go_wp2_with fail
    go_ret
    exact ⟨rfl, below_lit w _⟩

set_option maxHeartbeats 400000 in
theorem eqDec_true (cs : Int) (a1 a2 : Option Addr) (c1 c2 len : Nat) (bad : Bool) (bs : List UInt8) (w : World) (hl : len ≤ 1073741824) (h1 : Reads w a1 len bs) (h2 : Reads w a2 len bs) :
    Calls Tryd.prog 26 #[.agg #[.int .i64 cs, .slice a1 len c1, .bool bad], .agg #[.int .i64 cs, .slice a2 len c2, .bool bad]] w fun e w' => e = .returned (.bool true) ∧ Below w.heap.size w w' := by
  have H1 : Hd (Reads w a1 len bs) := ⟨h1⟩
  have H2 : Hd (Reads w a2 len bs) := ⟨h2⟩
  clear h1 h2
  have f1 : (cs != cs) = false := by simp
  have f2 : (bad != bad) = false := by simp
  go_enter Tryd.func26, Tryd.ntmps26
  go_wp2_with fail
  generalize hA : Obj.cells #[Value.int IntKind.i64 cs, Value.slice a1 len c1, Value.bool bad] 30 = A
  generalize hB : Obj.cells #[Value.int IntKind.i64 cs, Value.slice a2 len c2, Value.bool bad] 30 = B
  have h3 : Below w.heap.size w ((w.alloc A).alloc B) := below_lit2 w A B
  refine (eqByteS_true a1 a2 c1 c2 len bs _ hl (H1.out.below rfl h3) (H2.out.below rfl h3)).mono ?_
  rintro e w1 ⟨rfl, hb⟩
  obtain ⟨l0, l1⟩ := laid2 w A B
  subst hA hB
  obtain ⟨p0, p1, p2, _, _, _⟩ := cells3 w1 w.heap.size _ _ _ _ ((hb.block w.heap.size (by simp; omega)).trans l0)
  obtain ⟨q0, q1, q2, _, _, _⟩ := cells3 w1 (w.heap.size + 1) _ _ _ _ ((hb.block (w.heap.size + 1) (by simp)).trans l1)
  have HB : Hd (Below w.heap.size w w1) := ⟨Below.next h3 hb⟩
  clear hb h3 l0 l1
  go_wp2_with fail
  go_ret
  exact ⟨rfl, HB.out⟩

set_option maxHeartbeats 400000 in
theorem markDec_any (cs : Int) (g len cap m : Nat) (bad : Bool) (bs : List UInt8) (w : World) (hn : bs.length = len) (hR : Row w g bs) (hl : len ≤ 1073741824) (hm : m ≤ 1099511627776) :
    Calls Tryd.prog 29 #[.agg #[.int .i64 cs, .slice (some ⟨g, 0, none⟩) len cap, .bool bad], .int .i64 (m : Int)] w fun e w' => e = .returned (.int .i64 ((m + len : Nat) : Int)) ∧ Row w' g (marks m len) ∧ w.grownBy w' (some g) := by
  have Hn : Hd (bs.length = len) := ⟨hn⟩
  have HR : Hd (Row w g bs) := ⟨hR⟩
  clear hn hR
  go_enter Tryd.func29, Tryd.ntmps29
  go_wp2_with fail
  generalize hA : Obj.cells #[Value.int IntKind.i64 cs, Value.slice (some ⟨g, 0, none⟩) len cap, Value.bool bad] 30 = A
  refine (markByteS_any g len cap m bs _ Hn.out (HR.out.below (below_lit w A)) hl hm).mono ?_
  rintro e w1 ⟨rfl, hR1, hG1⟩
  have HR1 : Hd (Row w1 g (marks m len)) := ⟨hR1⟩
  have HG1 : Hd (w.grownBy w1 (some g)) := ⟨grown_of_alloc hG1⟩
  clear hR1 hG1 hA
  go_wp2_with fail
  go_ret
  exact ⟨rfl, HR1.out, HG1.out⟩

set_option maxHeartbeats 400000 in
theorem heldDec_any (cs : Int) (g len cap m : Nat) (bad : Bool) (w : World) (hR : Row w g (marks m len)) (hl : len ≤ 1073741824) (hm : m ≤ 1099511627776) :
    Calls Tryd.prog 31 #[.agg #[.int .i64 cs, .slice (some ⟨g, 0, none⟩) len cap, .bool bad], .int .i64 (m : Int)] w fun e w' => e = .returned (.int .i64 ((m + len : Nat) : Int)) ∧ Below w.heap.size w w' := by
  have HR : Hd (Row w g (marks m len)) := ⟨hR⟩
  clear hR
  go_enter Tryd.func31, Tryd.ntmps31
  go_wp2_with fail
  generalize hA : Obj.cells #[Value.int IntKind.i64 cs, Value.slice (some ⟨g, 0, none⟩) len cap, Value.bool bad] 30 = A
  refine (heldByteS_any g len cap m _ (HR.out.below (below_lit w A)) hl hm).mono ?_
  rintro e w1 ⟨rfl, hw⟩
  subst hw
  have h2 : ¬ ((m + len : Nat) : Int) < 0 := by omega
  clear hA
  go_wp2_with fail
  go_ret
  exact ⟨rfl, below_lit w A⟩

end Go.Proofs.YtjbideiifoadkaaDoor
