/- Contract of the specification's RowAt. -/
import Derived.Test.YtfgicjglinmclaaDpTab
import Derived.Test.YtfgicjglinmclaaTabP
import Derived.Test.YtfgicjglinmclaaExactB
namespace Go.Proofs.Ytfgicjglinmclaa
set_option maxRecDepth 4000
open Go.RowKit

set_option maxHeartbeats 4000000 in
theorem specRowAt_rd (cs : List Value) (a : TabD) (key : ByteArray) (w : World) (h : RcTab w cs a) (hw : wtTab a ≤ 1073741824) (_hk : key.size ≤ maxLen) :
    Calls Try.prog 6 #[.agg cs.toArray, .string key] w fun e w' => e = .returned (.int .i64 (rowAt a.rows key)) ∧ Below w.heap.size w w' := by
  obtain ⟨ls, l1, l2⟩ := a
  replace h := rcTab_w h
  simp only [RdTab] at h
  obtain ⟨x0, len, d0, x2, m2, d2, rfl, r0, _⟩ := h
  unfold wtTab at hw
  dsimp only at hw ⊢
  obtain ⟨hm9, hl, h⟩ := rdRowS_parts r0
  have hlen : len ≤ 1073741824 := by have := wtS_len wtRow ls; have : wtRowS ls = wtS wtRow ls := rfl; omega
  clear hw hm9 r0
  by_cases hz : len = 0
  · subst hz
    obtain rfl : ls = [] := List.eq_nil_of_length_eq_zero hl
    clear h hl hlen
    show Calls Try.prog _ _ _ (fun e w' => e = .returned (.int .i64 (-1)) ∧ Below w.heap.size w w')
    go_enter Try.func6, Try.ntmps6
    go_wp2_with fail
    refine wp_loop_rounds 1 ?_
    rewrite [rounds_succ]
    go_wp2_with fail
    go_ret
    exact ⟨rfl, below_lit w _⟩
  rcases h with h | ⟨b, o, rfl, g⟩
  · exact absurd (by rw [← hl, h, List.length_nil]) hz
  obtain ⟨R, hR⟩ : ∃ R, rowAt ls key = R := ⟨_, rfl⟩
  rw [hR]
  have HN : Hd (ls.length = len ∧ rowAtF (ls.drop 0) key 0 = R) := ⟨hl, hR⟩
  have G : Hd (∀ j a, ls[j]? = some a → ∃ c, c.length = 7 ∧ RdRow w c a ∧ ∀ i v, c[i]? = some v → w.cell? ⟨b, o + j * 7 + i, none⟩ = some v) := ⟨g⟩
  clear hl hR g hz
  go_enter Try.func6, Try.ntmps6
  go_wp2_with fail
  obtain ⟨W0, hW0⟩ : ∃ W, (w.alloc (Obj.cells #[Value.slice (some ⟨b, o, none⟩) len d0, Value.int IntKind.i64 l1, Value.slice x2 m2 d2] 31)) = W := ⟨_, rfl⟩
  have KA : Hd (W0.heap[w.heap.size]? = some (.cells #[Value.slice (some ⟨b, o, none⟩) len d0, Value.int IntKind.i64 l1, Value.slice x2 m2 d2] 31 (0, 0))) := ⟨by rw [← hW0]; exact heap_alloc_new w _⟩
  have B0 : Hd (Below w.heap.size w W0) := ⟨by rw [← hW0]; exact below_lit w _⟩
  rewrite [hW0]
  clear hW0
  go_loopw [5] (fun i wr => ∃ k : Nat, k ≤ len ∧ i = .int .i64 k ∧ Hd (rowAtF (ls.drop k) key (k : Int) = R) ∧ wr = W0) (fun i _ => len - (intOf i).toNat)
  case atStart => exact ⟨0, Nat.zero_le _, rfl, ⟨HN.out.2⟩, rfl⟩
  case round =>
    obtain ⟨k, hk, rfl, HK, rfl⟩ := hrel
    by_cases hlt : k < len
    · have hlt' : (k : Int) < (len : Int) := by omega
      have h0 : (0 : Int) ≤ (k : Int) := by omega
      obtain ⟨a, ha⟩ := get_some (l := ls) (j := k) (by rw [HN.out.1]; exact hlt)
      obtain ⟨c, hcn, hR, hcell⟩ := G.out k a ha
      obtain ⟨q0, q1, q2, q3, q4, q5, q6⟩ := a
      simp only [RdRow] at hR
      obtain ⟨_, _, _, _, _, _, rfl, _⟩ := hR
      have c0 := cellsA KA.out 0 rfl
      have t0 := cell_below (hcell 0 _ rfl) B0.out
      simp only [Nat.add_zero] at t0
      by_cases hq : (q0.toList == key.toList) = true
      · have HF : Hd (R = (k : Int)) := ⟨by rw [← HK.out]; exact rowAtF_yes _ ha hq⟩
        clear hcell hcn ha
        go_wp2_with fail
        go_ret
        exact ⟨by rw [HF.out]; rfl, B0.out⟩
      · replace hq : (q0.toList == key.toList) = false := by simpa using hq
        have HF : Hd (rowAtF (ls.drop (k + 1)) key ((k + 1 : Nat) : Int) = R) := ⟨by rw [← HK.out]; have h7 := rowAtF_no (k : Int) ha hq; rw [h7]; rfl⟩
        clear hcell hcn ha
        go_wp2_with fail
        go_roundw
        case rel => exact ⟨k + 1, by omega, by go_num, HF, by first | rfl | trivial⟩
        case measure => simp [intOf]; omega
    · have HF : Hd (R = -1) := ⟨by rw [← HK.out]; exact rowAtF_nil key _ (by have := HN.out.1; omega)⟩
      have c0 := cellsA KA.out 0 rfl
      go_wp2_with fail
      go_ret
      exact ⟨by rw [HF.out]; rfl, B0.out⟩

end Go.Proofs.Ytfgicjglinmclaa
