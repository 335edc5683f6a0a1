/- Contracts of MarkAt, both. -/
import Derived.Test.YtfgicjglinmclaaDpTab
import Derived.Test.YtfgicjglinmclaaTabP
import Derived.Test.YtfgicjglinmclaaExactB
namespace Go.Proofs.Ytfgicjglinmclaa
set_option maxRecDepth 4000
open Go.RowKit

set_option maxHeartbeats 4000000 in
theorem implMarkAt_rd (cs : List Value) (a : TabD) (who : Int) (w : World) (h : RcTab w cs a) (hw : wtTab a ≤ 1073741824) :
    Calls Try.prog 11 #[.agg cs.toArray, .int .i64 who] w (AnsT RdMark (markAt a.marks who).1 (.bool (markAt a.marks who).2) w) := by
  obtain ⟨l0, l1, ls⟩ := a
  replace h := rcTab_w h
  simp only [RdTab] at h
  obtain ⟨x0, m0, d0, x2, len, d2, rfl, _, r2⟩ := h
  unfold wtTab at hw
  dsimp only at hw ⊢
  obtain ⟨hm9, hl, h⟩ := rdMarkS_parts r2
  have hlen : len ≤ 1073741824 := by have := wtS_len wtMark ls; have : wtMarkS ls = wtS wtMark ls := rfl; omega
  clear hw hm9 r2
  by_cases hz : len = 0
  · subst hz
    obtain rfl : ls = [] := List.eq_nil_of_length_eq_zero hl
    clear h hl hlen
    show Calls Try.prog _ _ _ (AnsT RdMark zeroMark (.bool false) w)
    go_enter Try.func11, Try.ntmps11
    go_wp2_with fail
    refine wp_loop_rounds 1 ?_
    rewrite [rounds_succ]
    go_wp2_with fail
    refine bodyPost_ret (results_row_tmp rfl _ _ (w.heap.size + 1) _ _ (0, 0) _ rfl ((laid2 w _ _).2) Try.underlying36 rfl (by kernel_rfl)) rfl ?_
    exact ⟨⟨_, rfl, rfl⟩, below_lit2 w _ _⟩
  rcases h with h | ⟨b, o, rfl, g⟩
  · exact absurd (by rw [← hl, h, List.length_nil]) hz
  obtain ⟨R, hR⟩ : ∃ R, markAt ls who = R := ⟨_, rfl⟩
  rw [hR]
  have HN : Hd (ls.length = len ∧ markAt (ls.drop 0) who = R) := ⟨hl, hR⟩
  have G : Hd (∀ j a, ls[j]? = some a → ∃ c, c.length = 3 ∧ RdMark w c a ∧ ∀ i v, c[i]? = some v → w.cell? ⟨b, o + j * 3 + i, none⟩ = some v) := ⟨g⟩
  clear hl hR g hz
  go_enter Try.func11, Try.ntmps11
  go_wp2_with fail
  obtain ⟨W0, hW0⟩ : ∃ W, ((w.alloc (Obj.cells #[Value.slice x0 m0 d0, Value.int IntKind.i64 l1, Value.slice (some ⟨b, o, none⟩) len d2] 31)).alloc (Obj.cells #[Value.int IntKind.i64 0, Value.int IntKind.i64 0, Value.int IntKind.i64 0] 36)) = W := ⟨_, rfl⟩
  obtain ⟨k1, k2⟩ := laid2 w (Obj.cells #[Value.slice x0 m0 d0, Value.int IntKind.i64 l1, Value.slice (some ⟨b, o, none⟩) len d2] 31) (Obj.cells #[Value.int IntKind.i64 0, Value.int IntKind.i64 0, Value.int IntKind.i64 0] 36)
  rw [hW0] at k1 k2
  have KA : Hd (W0.heap[w.heap.size]? = some (.cells #[Value.slice x0 m0 d0, Value.int IntKind.i64 l1, Value.slice (some ⟨b, o, none⟩) len d2] 31 (0, 0))) := ⟨k1⟩
  have KZ : Hd (W0.heap[w.heap.size + 1]? = some (.cells #[Value.int IntKind.i64 0, Value.int IntKind.i64 0, Value.int IntKind.i64 0] 36 (0, 0))) := ⟨k2⟩
  have B0 : Hd (Below w.heap.size w W0) := ⟨by rw [← hW0]; exact below_lit2 w _ _⟩
  rewrite [hW0]
  clear k1 k2 hW0
  go_loopw [11] (fun i wr => ∃ k : Nat, k ≤ len ∧ i = .int .i64 k ∧ Hd (markAt (ls.drop k) who = R) ∧ Hd (Below W0.heap.size W0 wr)) (fun i _ => len - (intOf i).toNat)
  case atStart => exact ⟨0, Nat.zero_le _, rfl, ⟨HN.out.2⟩, ⟨Below.refl _ _⟩⟩
  case round =>
    obtain ⟨k, hk, rfl, HK, HB⟩ := hrel
    have KZ1 : Hd (wr.heap[w.heap.size + 1]? = some (.cells #[Value.int IntKind.i64 0, Value.int IntKind.i64 0, Value.int IntKind.i64 0] 36 (0, 0))) := ⟨(HB.out.block _ (block_lt KZ.out)).trans KZ.out⟩
    have BW : Hd (Below w.heap.size w wr) := ⟨Below.next B0.out HB.out⟩
    by_cases hlt : k < len
    · have hlt' : (k : Int) < (len : Int) := by omega
      have h0 : (0 : Int) ≤ (k : Int) := by omega
      obtain ⟨a, ha⟩ := get_some (l := ls) (j := k) (by rw [HN.out.1]; exact hlt)
      obtain ⟨c, hcn, hR, hcell⟩ := G.out k a ha
      obtain ⟨q0, q1, q2⟩ := a
      simp only [RdMark] at hR
      subst hR
      have c2 := cell_below (cellsA KA.out 2 rfl) HB.out
      have t0 := cell_below (hcell 0 _ rfl) BW.out
      have t1 := cell_below (hcell 1 _ rfl) BW.out
      have t2 := cell_below (hcell 2 _ rfl) BW.out
      simp only [Nat.add_zero] at t0
      have KZ2 : Hd ((wr.alloc (Obj.cells #[Value.int IntKind.i64 q0, Value.int IntKind.i64 q1, Value.int IntKind.i64 q2] 36)).heap[w.heap.size + 1]? = some (.cells #[Value.int IntKind.i64 0, Value.int IntKind.i64 0, Value.int IntKind.i64 0] 36 (0, 0))) := ⟨((below_lit wr _).block _ (block_lt KZ1.out)).trans KZ1.out⟩
      have z0 := cellsA KZ2.out 0 rfl
      have z1 := cellsA KZ2.out 1 rfl
      have z2 := cellsA KZ2.out 2 rfl
      have f0 := freeA KZ2.out 0
      have f1 := freeA KZ2.out 1
      have f2 := freeA KZ2.out 2
      by_cases hq : q0 = who
      · have HF : Hd (R = ((⟨q0, q1, q2⟩ : MarkD), true)) := ⟨by rw [← HK.out]; exact markAt_yes ha hq⟩
        have hqb : (q0 == who) = true := by simp [hq]
        clear hcell hcn ha hq
        skip
        go_wp2_with fail
        skip
        rw [HF.out]
        refine bodyPost_ret (results_row_tmp rfl _ _ (w.heap.size + 1) _ _ (0, 0) _ rfl (setA (setA (setA KZ2.out 0 _ rfl) 1 _ rfl) 2 _ rfl) Try.underlying36 rfl (by kernel_rfl)) rfl ?_
        exact ⟨⟨_, rfl, rfl⟩, bset (bset (bset (Below.next BW.out (below_lit _ _)) _ (by omega)) _ (by omega)) _ (by omega)⟩
      · have HF : Hd (markAt (ls.drop (k + 1)) who = R) := ⟨by rw [← HK.out]; exact (markAt_no ha hq).symm⟩
        have hqb : (q0 == who) = false := by simp [hq]
        have HB1 : Hd (Below W0.heap.size W0 (wr.alloc (Obj.cells #[Value.int IntKind.i64 q0, Value.int IntKind.i64 q1, Value.int IntKind.i64 q2] 36))) := ⟨Below.next HB.out (below_lit _ _)⟩
        clear hcell hcn ha
        go_wp2_with fail
        go_roundw
        case rel => exact ⟨k + 1, by omega, by go_num, HF, HB1⟩
        case measure => simp [intOf]; omega
    · have HF : Hd (R = (zeroMark, false)) := ⟨by rw [← HK.out]; exact markAt_nil who (by have := HN.out.1; omega)⟩
      have c2 := cell_below (cellsA KA.out 2 rfl) HB.out
      have z0 := cellsA KZ1.out 0 rfl
      have z1 := cellsA KZ1.out 1 rfl
      have z2 := cellsA KZ1.out 2 rfl
      have f0 := freeA KZ1.out 0
      have f1 := freeA KZ1.out 1
      have f2 := freeA KZ1.out 2
      go_wp2_with fail
      rw [HF.out]
      refine bodyPost_ret (results_row_tmp rfl _ _ (w.heap.size + 1) _ _ (0, 0) _ rfl (setA (setA (setA KZ1.out 0 _ rfl) 1 _ rfl) 2 _ rfl) Try.underlying36 rfl (by kernel_rfl)) rfl ?_
      exact ⟨⟨_, rfl, rfl⟩, bset (bset (bset BW.out _ (by omega)) _ (by omega)) _ (by omega)⟩

end Go.Proofs.Ytfgicjglinmclaa
