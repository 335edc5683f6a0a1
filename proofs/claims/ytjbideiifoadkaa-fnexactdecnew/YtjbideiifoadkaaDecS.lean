/- Contracts of what the laws do with a state: its size, a copy of it, whether two are alike, and the marks of its memory. -/
import Derived.Test.YtjbideiifoadkaaBlocks
namespace Go.Proofs.Ytjbideiifoadkaa
open Go.RowKit

set_option maxHeartbeats 400000 in
theorem eqDec_true (cs : Int) (a1 a2 : Option Addr) (c1 c2 len : Nat) (bad : Bool) (bs : List UInt8) (w : World) (hl : len ≤ 1073741824) (h1 : Reads w a1 len bs) (h2 : Reads w a2 len bs) :
    Calls Try.prog 6 #[.agg #[.int .i64 cs, .slice a1 len c1, .bool bad], .agg #[.int .i64 cs, .slice a2 len c2, .bool bad]] w fun e w' => e = .returned (.bool true) ∧ Below w.heap.size w w' := by
  have H1 : Hd (Reads w a1 len bs) := ⟨h1⟩
  have H2 : Hd (Reads w a2 len bs) := ⟨h2⟩
  clear h1 h2
  have f1 : (cs != cs) = false := by simp
  have f2 : (bad != bad) = false := by simp
  go_enter Try.func6, Try.ntmps6
  go_wp2_with fail
  generalize hA : Obj.cells #[Value.int IntKind.i64 cs, Value.slice a1 len c1, Value.bool bad] 24 = A
  generalize hB : Obj.cells #[Value.int IntKind.i64 cs, Value.slice a2 len c2, Value.bool bad] 24 = B
  have h3 : Below w.heap.size w ((w.alloc A).alloc B) := below_lit2 w A B
  refine (eqByteS_true a1 a2 c1 c2 len bs _ hl (H1.out.below rfl h3) (H2.out.below rfl h3)).mono ?_
  rintro e w1 ⟨rfl, hb⟩
  obtain ⟨l0, l1⟩ := laid2 w A B
  subst hA hB
  obtain ⟨p0, p1, p2, _, _, _⟩ := cells3 w1 w.heap.size _ _ _ _ ((hb.block w.heap.size (by simp; omega)).trans l0)
  obtain ⟨q0, q1, q2, _, _, _⟩ := cells3 w1 (w.heap.size + 1) _ _ _ _ ((hb.block (w.heap.size + 1) (by simp)).trans l1)
  have HB : Hd (Below w.heap.size w w1) := ⟨Below.next h3 hb⟩
  clear hb h3 l0 l1
  go_wp2_with fail
  go_ret
  exact ⟨rfl, HB.out⟩

set_option maxHeartbeats 400000 in
theorem markDec_any (cs : Int) (g len cap m : Nat) (bad : Bool) (bs : List UInt8) (w : World) (hn : bs.length = len) (hR : Row w g bs) (hl : len ≤ 1073741824) (hm : m ≤ 1099511627776) :
    Calls Try.prog 7 #[.agg #[.int .i64 cs, .slice (some ⟨g, 0, none⟩) len cap, .bool bad], .int .i64 (m : Int)] w fun e w' => e = .returned (.int .i64 ((m + len : Nat) : Int)) ∧ Row w' g (marks m len) ∧ w.grownBy w' (some g) := by
  have Hn : Hd (bs.length = len) := ⟨hn⟩
  have HR : Hd (Row w g bs) := ⟨hR⟩
  clear hn hR
  go_enter Try.func7, Try.ntmps7
  go_wp2_with fail
  generalize hA : Obj.cells #[Value.int IntKind.i64 cs, Value.slice (some ⟨g, 0, none⟩) len cap, Value.bool bad] 24 = A
  refine (markByteS_any g len cap m bs _ Hn.out (HR.out.below (below_lit w A)) hl hm).mono ?_
  rintro e w1 ⟨rfl, hR1, hG1⟩
  have HR1 : Hd (Row w1 g (marks m len)) := ⟨hR1⟩
  have HG1 : Hd (w.grownBy w1 (some g)) := ⟨grown_of_alloc hG1⟩
  clear hR1 hG1 hA
  go_wp2_with fail
  go_ret
  exact ⟨rfl, HR1.out, HG1.out⟩

set_option maxHeartbeats 400000 in
theorem heldDec_any (cs : Int) (g len cap m : Nat) (bad : Bool) (w : World) (hR : Row w g (marks m len)) (hl : len ≤ 1073741824) (hm : m ≤ 1099511627776) :
    Calls Try.prog 8 #[.agg #[.int .i64 cs, .slice (some ⟨g, 0, none⟩) len cap, .bool bad], .int .i64 (m : Int)] w fun e w' => e = .returned (.int .i64 ((m + len : Nat) : Int)) ∧ Below w.heap.size w w' := by
  have HR : Hd (Row w g (marks m len)) := ⟨hR⟩
  clear hR
  go_enter Try.func8, Try.ntmps8
  go_wp2_with fail
  generalize hA : Obj.cells #[Value.int IntKind.i64 cs, Value.slice (some ⟨g, 0, none⟩) len cap, Value.bool bad] 24 = A
  refine (heldByteS_any g len cap m _ (HR.out.below (below_lit w A)) hl hm).mono ?_
  rintro e w1 ⟨rfl, hw⟩
  subst hw
  have h2 : ¬ ((m + len : Nat) : Int) < 0 := by omega
  clear hA
  go_wp2_with fail
  go_ret
  exact ⟨rfl, below_lit w A⟩

end Go.Proofs.Ytjbideiifoadkaa
