/- The contract of toRow, the laws' copy of a row. -/
import Derived.Test.YtpafjehphajbhabDoorRowS
namespace Go.Proofs.YtpafjehphajbhabDoor
set_option maxRecDepth 4000
open Go.RowKit

set_option maxHeartbeats 1000000 in
theorem toRow_any (k : ByteArray) (t1 : Int) (a1 : Option Addr) (n1 c1 : Nat) (t2 : Int) (a2 : Option Addr) (n2 c2 : Nat) (has : Int) (asd : Bool) (b1 b2 : List UInt8) (w : World) (h1 : Reads w a1 n1 b1) (h2 : Reads w a2 n2 b2) (hl1 : n1 ≤ 1073741824) (hl2 : n2 ≤ 1073741824) :
    Calls Tryd.prog 10 #[.agg #[.string k, .int .i64 t1, .slice a1 n1 c1, .int .i64 t2, .slice a2 n2 c2, .int .i64 has, .bool asd]] w fun e w' => ∃ g1 g2, e = .returned (.agg #[.string k, .int .i64 t1, .slice (some ⟨g1, 0, none⟩) n1 n1, .int .i64 t2, .slice (some ⟨g2, 0, none⟩) n2 n2, .int .i64 has, .bool asd]) ∧ w.heap.size ≤ g1 ∧ g1 < g2 ∧ Row w' g1 b1 ∧ Row w' g2 b2 ∧ Below w.heap.size w w' := by
  have H1 : Hd (Reads w a1 n1 b1) := ⟨h1⟩
  have H2 : Hd (Reads w a2 n2 b2) := ⟨h2⟩
  clear h1 h2
  go_enter Tryd.func10, Tryd.ntmps10
  go_wp2_with fail
  generalize hA : Obj.cells #[Value.string k, .int .i64 t1, .slice a1 n1 c1, .int .i64 t2, .slice a2 n2 c2, .int .i64 has, .bool asd] 26 = A
  generalize hB : Obj.cells #[Value.string ⟨#[]⟩, .int .i64 0, .slice none 0 0, .int .i64 0, .slice none 0 0, .int .i64 0, .bool false] 30 = B
  generalize hC : Obj.cells #[Value.string k, .int .i64 0, .slice none 0 0, .int .i64 0, .slice none 0 0, .int .i64 0, .bool false] 30 = C
  have h3 : Below w.heap.size w (((w.alloc A).alloc B).alloc C) := below_lit3 w A B C
  refine (toCell_any t1 a1 n1 c1 b1 _ (H1.out.below rfl h3) hl1).mono ?_
  rintro e w1 ⟨g1, rfl, hg1, hR1, hb⟩
  obtain ⟨l0, l1, l2⟩ := laid3 w A B C
  subst hA hB hC
  simp only [World.size_alloc] at hg1
  have HG1 : Hd (w.heap.size + 1 + 1 + 1 ≤ g1) := ⟨hg1⟩
  have A1 : Hd (w1.heap[w.heap.size]? = some (.cells #[.string k, .int .i64 t1, .slice a1 n1 c1, .int .i64 t2, .slice a2 n2 c2, .int .i64 has, .bool asd] 26 (0, 0))) := ⟨(hb.block _ (by simp; omega)).trans l0⟩
  have R1 : Hd (w1.heap[w.heap.size + 1]? = some (.cells #[.string ⟨#[]⟩, .int .i64 0, .slice none 0 0, .int .i64 0, .slice none 0 0, .int .i64 0, .bool false] 30 (0, 0))) := ⟨(hb.block _ (by simp)).trans l1⟩
  have C1 : Hd (w1.heap[w.heap.size + 1 + 1]? = some (.cells #[.string k, .int .i64 0, .slice none 0 0, .int .i64 0, .slice none 0 0, .int .i64 0, .bool false] 30 (0, 0))) := ⟨(hb.block _ (by simp)).trans l2⟩
  have B1 : Hd (Below w.heap.size w w1) := ⟨Below.next h3 hb⟩
  have Q1 : Hd (Row w1 g1 b1) := ⟨hR1⟩
  obtain ⟨x0, x1, x2, x3, x4, x5, x6⟩ := cells7 w1 w.heap.size _ _ _ _ _ _ _ _ A1.out
  obtain ⟨z0, z1, z2, z3, z4, z5, z6⟩ := cells7 w1 (w.heap.size + 1 + 1) _ _ _ _ _ _ _ _ C1.out
  obtain ⟨f0, f1, f2, f3, f4, f5, f6⟩ := free7 w1 (w.heap.size + 1 + 1) _ _ _ _ _ _ _ _ C1.out
  clear hg1 hR1 hb h3 l0 l1 l2
  go_wp2_with fail
  have B2 : Hd (Below w.heap.size w ((w1.setCell ⟨w.heap.size + 1 + 1, 1, none⟩ (.int .i64 t1)).setCell ⟨w.heap.size + 1 + 1, 2, none⟩ (.slice (some ⟨g1, 0, none⟩) n1 n1))) := ⟨bset (bset B1.out _ (by omega)) _ (by omega)⟩
  have A2 : Hd (((w1.setCell ⟨w.heap.size + 1 + 1, 1, none⟩ (.int .i64 t1)).setCell ⟨w.heap.size + 1 + 1, 2, none⟩ (.slice (some ⟨g1, 0, none⟩) n1 n1)).heap[w.heap.size]? = some (.cells #[.string k, .int .i64 t1, .slice a1 n1 c1, .int .i64 t2, .slice a2 n2 c2, .int .i64 has, .bool asd] 26 (0, 0))) := ⟨block_set (block_set A1.out (by omega)) (by omega)⟩
  have R2 : Hd (((w1.setCell ⟨w.heap.size + 1 + 1, 1, none⟩ (.int .i64 t1)).setCell ⟨w.heap.size + 1 + 1, 2, none⟩ (.slice (some ⟨g1, 0, none⟩) n1 n1)).heap[w.heap.size + 1]? = some (.cells #[.string ⟨#[]⟩, .int .i64 0, .slice none 0 0, .int .i64 0, .slice none 0 0, .int .i64 0, .bool false] 30 (0, 0))) := ⟨block_set (block_set R1.out (by omega)) (by omega)⟩
  have C2 : Hd (((w1.setCell ⟨w.heap.size + 1 + 1, 1, none⟩ (.int .i64 t1)).setCell ⟨w.heap.size + 1 + 1, 2, none⟩ (.slice (some ⟨g1, 0, none⟩) n1 n1)).heap[w.heap.size + 1 + 1]? = some (.cells #[.string k, .int .i64 t1, .slice (some ⟨g1, 0, none⟩) n1 n1, .int .i64 0, .slice none 0 0, .int .i64 0, .bool false] 30 (0, 0))) := ⟨by rw [set_at _ (set_at _ C1.out)]; simp⟩
  have Q2 : Hd (Row ((w1.setCell ⟨w.heap.size + 1 + 1, 1, none⟩ (.int .i64 t1)).setCell ⟨w.heap.size + 1 + 1, 2, none⟩ (.slice (some ⟨g1, 0, none⟩) n1 n1)) g1 b1) := ⟨(Q1.out.set _ (by have := HG1.out; omega)).set _ (by have := HG1.out; omega)⟩
  clear x0 x1 x2 x3 x4 x5 x6 z0 z1 z2 z3 z4 z5 z6 f0 f1 f2 f3 f4 f5 f6 A1 R1 C1 Q1 B1
  generalize (w1.setCell ⟨w.heap.size + 1 + 1, 1, none⟩ (.int .i64 t1)).setCell ⟨w.heap.size + 1 + 1, 2, none⟩ (.slice (some ⟨g1, 0, none⟩) n1 n1) = w2 at *
  refine (toCell_any t2 a2 n2 c2 b2 _ (H2.out.below rfl B2.out) hl2).mono ?_
  rintro e w3 ⟨g2, rfl, hg2, hR2, hb⟩
  have HG2 : Hd (g1 < g2) := ⟨Nat.lt_of_lt_of_le Q2.out.lt hg2⟩
  have A3 : Hd (w3.heap[w.heap.size]? = some (.cells #[.string k, .int .i64 t1, .slice a1 n1 c1, .int .i64 t2, .slice a2 n2 c2, .int .i64 has, .bool asd] 26 (0, 0))) := ⟨(hb.block _ (lt_of_block A2.out)).trans A2.out⟩
  have R3 : Hd (w3.heap[w.heap.size + 1]? = some (.cells #[.string ⟨#[]⟩, .int .i64 0, .slice none 0 0, .int .i64 0, .slice none 0 0, .int .i64 0, .bool false] 30 (0, 0))) := ⟨(hb.block _ (lt_of_block R2.out)).trans R2.out⟩
  have C3 : Hd (w3.heap[w.heap.size + 1 + 1]? = some (.cells #[.string k, .int .i64 t1, .slice (some ⟨g1, 0, none⟩) n1 n1, .int .i64 0, .slice none 0 0, .int .i64 0, .bool false] 30 (0, 0))) := ⟨(hb.block _ (lt_of_block C2.out)).trans C2.out⟩
  have B3 : Hd (Below w.heap.size w w3) := ⟨Below.next B2.out hb⟩
  have Q3 : Hd (Row w3 g1 b1) := ⟨Q2.out.below hb⟩
  have P3 : Hd (Row w3 g2 b2) := ⟨hR2⟩
  obtain ⟨x0, x1, x2, x3, x4, x5, x6⟩ := cells7 w3 w.heap.size _ _ _ _ _ _ _ _ A3.out
  obtain ⟨z0, z1, z2, z3, z4, z5, z6⟩ := cells7 w3 (w.heap.size + 1 + 1) _ _ _ _ _ _ _ _ C3.out
  obtain ⟨f0, f1, f2, f3, f4, f5, f6⟩ := free7 w3 (w.heap.size + 1 + 1) _ _ _ _ _ _ _ _ C3.out
  obtain ⟨r0, r1, r2, r3, r4, r5, r6⟩ := cells7 w3 (w.heap.size + 1) _ _ _ _ _ _ _ _ R3.out
  obtain ⟨s0, s1, s2, s3, s4, s5, s6⟩ := free7 w3 (w.heap.size + 1) _ _ _ _ _ _ _ _ R3.out
  clear hg2 hR2 hb A2 R2 C2 B2 Q2
  go_wp2_with fail
  refine bodyPost_ret (results_cell_row rfl _ _ (w.heap.size + 1) _ _ (0, 0) _ rfl (set7 _ _ _ _ _ _ _ (block_set (block_set (block_set (block_set R3.out (by omega)) (by omega)) (by omega)) (by omega))) Tryd.underlying30 rfl (by kernel_rfl)) rfl ?_
  have hq1 := HG1.out
  have hq2 := HG2.out
  refine ⟨g1, g2, rfl, by omega, hq2, ?_, ?_, ?_⟩
  · exact ((((((((((Q3.out.set _ (by omega)).set _ (by omega)).set _ (by omega)).set _ (by omega)).set _ (by omega)).set _ (by omega)).set _ (by omega)).set _ (by omega)).set _ (by omega)).set _ (by omega)).set _ (by omega)
  · exact ((((((((((P3.out.set _ (by omega)).set _ (by omega)).set _ (by omega)).set _ (by omega)).set _ (by omega)).set _ (by omega)).set _ (by omega)).set _ (by omega)).set _ (by omega)).set _ (by omega)).set _ (by omega)
  · exact bset (bset (bset (bset (bset (bset (bset (bset (bset (bset (bset B3.out _ (by omega)) _ (by omega)) _ (by omega)) _ (by omega)) _ (by omega)) _ (by omega)) _ (by omega)) _ (by omega)) _ (by omega)) _ (by omega)) _ (by omega)

end Go.Proofs.YtpafjehphajbhabDoor
