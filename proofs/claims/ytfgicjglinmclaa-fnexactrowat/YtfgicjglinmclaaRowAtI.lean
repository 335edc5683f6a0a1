/- Contract of the program's RowAt. -/
import Derived.Test.YtfgicjglinmclaaDpTab
import Derived.Test.YtfgicjglinmclaaTabP
import Derived.Test.YtfgicjglinmclaaExactB
namespace Go.Proofs.Ytfgicjglinmclaa
set_option maxRecDepth 4000
open Go.RowKit

/-- The closure: whether a row is of the key that its box holds. -/
theorem implRowAt1_any (cs : List Value) (a : RowD) (key : ByteArray) (q : Nat) (w : World) (h : RdRow w cs a) (hq : w.heap[q]? = some (.cells #[.string key] 9 (0, 0))) :
    Calls Try.prog 18 #[.agg cs.toArray, .pointer (some ⟨q, 0, none⟩)] w fun e w' => e = .returned (.bool (a.key.toList == key.toList)) ∧ Below w.heap.size w w' := by
  obtain ⟨l0, l1, l2, l3, l4, l5, l6⟩ := a
  simp only [RdRow] at h
  obtain ⟨x2, m2, d2, x4, m4, d4, rfl, _⟩ := h
  dsimp only
  have hlt := block_lt hq
  have c0 := cell_below (cellsA hq 0 rfl) (below_lit w (.cells #[Value.string l0, .int .i64 l1, .slice x2 m2 d2, .int .i64 l3, .slice x4 m4 d4, .int .i64 l5, .bool l6] 47))
  clear hq
  go_enter Try.func18, Try.ntmps18
  go_wp2
  go_ret
  exact ⟨rfl, below_lit w _⟩

set_option maxHeartbeats 4000000 in
theorem indexFunc_any (ao : Option Addr) (len cap : Nat) (ls : List RowD) (key : ByteArray) (q : Nat) (w : World) (h : RdRowS w [.slice ao len cap] ls) (hw : wtRowS ls ≤ 1073741824) (hq : w.heap[q]? = some (.cells #[.string key] 9 (0, 0))) :
    Calls Try.prog 17 #[.slice ao len cap, .func (.func 18) #[] #[.pointer (some ⟨q, 0, none⟩)]] w fun e w' => e = .returned (.int .i64 (rowAt ls key)) ∧ Below w.heap.size w w' := by
  obtain ⟨hm9, hl, h⟩ := rdRowS_parts h
  have hlen : len ≤ 1073741824 := by have := wtS_len wtRow ls; have : wtRowS ls = wtS wtRow ls := rfl; omega
  clear hw hm9
  by_cases hz : len = 0
  · subst hz
    obtain rfl : ls = [] := List.eq_nil_of_length_eq_zero hl
    clear h hl hlen hq
    show Calls Try.prog _ _ _ (fun e w' => e = .returned (.int .i64 (-1)) ∧ Below w.heap.size w w')
    go_enter Try.func17, Try.ntmps17
    go_wp2_with fail
    refine wp_loop_rounds 1 ?_
    rewrite [rounds_succ]
    go_wp2_with fail
    go_ret
    exact ⟨rfl, Below.refl _ w⟩
  rcases h with h | ⟨b, o, rfl, g⟩
  · exact absurd (by rw [← hl, h, List.length_nil]) hz
  obtain ⟨R, hR⟩ : ∃ R, rowAt ls key = R := ⟨_, rfl⟩
  rw [hR]
  have HN : Hd (ls.length = len ∧ rowAtF (ls.drop 0) key 0 = R) := ⟨hl, hR⟩
  have G : Hd (∀ j a, ls[j]? = some a → ∃ c, c.length = 7 ∧ RdRow w c a ∧ ∀ i v, c[i]? = some v → w.cell? ⟨b, o + j * 7 + i, none⟩ = some v) := ⟨g⟩
  have KQ : Hd (w.heap[q]? = some (.cells #[.string key] 9 (0, 0))) := ⟨hq⟩
  clear hl hR g hz hq
  go_enter Try.func17, Try.ntmps17
  go_wp2_with fail
  go_loopw [8] (fun i wr => ∃ k : Nat, k ≤ len ∧ i = .int .i64 k ∧ Hd (rowAtF (ls.drop k) key (k : Int) = R) ∧ Hd (Below w.heap.size w wr)) (fun i _ => len - (intOf i).toNat)
  case atStart => exact ⟨0, Nat.zero_le _, rfl, ⟨HN.out.2⟩, ⟨Below.refl _ _⟩⟩
  case round =>
    obtain ⟨k, hk, rfl, HK, HB⟩ := hrel
    by_cases hlt : k < len
    · have hlt' : (k : Int) < (len : Int) := by omega
      have h0 : (0 : Int) ≤ (k : Int) := by omega
      obtain ⟨a, ha⟩ := get_some (l := ls) (j := k) (by rw [HN.out.1]; exact hlt)
      obtain ⟨c, hcn, hR, hcell⟩ := G.out k a ha
      replace hR := rdRow_ok.below hR HB.out
      obtain ⟨q0, q1, q2, q3, q4, q5, q6⟩ := a
      have hR0 := hR
      simp only [RdRow] at hR0
      obtain ⟨x2, m2, d2, x4, m4, d4, rfl, _⟩ := hR0
      have t0 := cell_below (hcell 0 _ rfl) HB.out
      have t1 := cell_below (hcell 1 _ rfl) HB.out
      have t2 := cell_below (hcell 2 _ rfl) HB.out
      have t3 := cell_below (hcell 3 _ rfl) HB.out
      have t4 := cell_below (hcell 4 _ rfl) HB.out
      have t5 := cell_below (hcell 5 _ rfl) HB.out
      have t6 := cell_below (hcell 6 _ rfl) HB.out
      simp only [Nat.add_zero] at t0
      have Q : Hd (RdRow wr [.string q0, .int .i64 q1, .slice x2 m2 d2, .int .i64 q3, .slice x4 m4 d4, .int .i64 q5, .bool q6] ⟨q0, q1, q2, q3, q4, q5, q6⟩) := ⟨hR⟩
      have HY : Hd ((q0.toList == key.toList) = true → R = (k : Int)) := ⟨fun e => by rw [← HK.out]; exact rowAtF_yes _ ha e⟩
      have HX : Hd ((q0.toList == key.toList) = false → rowAtF (ls.drop (k + 1)) key ((k + 1 : Nat) : Int) = R) := ⟨fun e => by rw [← HK.out]; have h7 := rowAtF_no (k : Int) ha e; rw [h7]; rfl⟩
      clear hR hcell hcn ha
      go_wp2_with fail
      refine (implRowAt1_any _ ⟨q0, q1, q2, q3, q4, q5, q6⟩ key q _ Q.out ((HB.out.block q (block_lt KQ.out)).trans KQ.out)).mono ?_
      rintro e w1 ⟨rfl, hb⟩
      have HB1 : Hd (Below w.heap.size w w1) := ⟨Below.next HB.out hb⟩
      clear hb Q HB t0 t1 t2 t3 t4 t5 t6
      dsimp only
      by_cases hqq : (q0.toList == key.toList) = true
      · have HF := HY.out hqq
        rw [hqq]
        clear HX HY hqq
        go_wp2_with fail
        go_ret
        exact ⟨by rw [HF]; rfl, HB1.out⟩
      · replace hqq : (q0.toList == key.toList) = false := by simpa using hqq
        have HF : Hd (rowAtF (ls.drop (k + 1)) key ((k + 1 : Nat) : Int) = R) := ⟨HX.out hqq⟩
        rw [hqq]
        clear HX HY hqq
        go_wp2_with fail
        go_roundw
        case rel => exact ⟨k + 1, by omega, by go_num, HF, HB1⟩
        case measure => simp [intOf]; omega
    · have HF : Hd (R = -1) := ⟨by rw [← HK.out]; exact rowAtF_nil key _ (by have := HN.out.1; omega)⟩
      go_wp2_with fail
      go_ret
      exact ⟨by rw [HF.out]; rfl, HB.out⟩

set_option maxHeartbeats 4000000 in
theorem implRowAt_rd (cs : List Value) (a : TabD) (key : ByteArray) (w : World) (h : RcTab w cs a) (hw : wtTab a ≤ 1073741824) (_hk : key.size ≤ maxLen) :
    Calls Try.prog 8 #[.agg cs.toArray, .string key] w fun e w' => e = .returned (.int .i64 (rowAt a.rows key)) ∧ Below w.heap.size w w' := by
  obtain ⟨ls, l1, l2⟩ := a
  replace h := rcTab_w h
  simp only [RdTab] at h
  obtain ⟨x0, len, d0, x2, m2, d2, rfl, r0, _⟩ := h
  unfold wtTab at hw
  dsimp only at hw ⊢
  have hw0 : wtRowS ls ≤ 1073741824 := by omega
  have HR : Hd (RdRowS w [.slice x0 len d0] ls ∧ wtRowS ls ≤ 1073741824) := ⟨r0, hw0⟩
  clear r0 hw hw0
  go_enter Try.func8, Try.ntmps8
  go_wp2_with fail
  obtain ⟨k1, k2⟩ := laid2 w (Obj.cells #[Value.slice x0 len d0, Value.int IntKind.i64 l1, Value.slice x2 m2 d2] 31) (Obj.cells #[Value.string key] 9)
  refine (indexFunc_any x0 len d0 ls key _ _ (rdRowS_ok.below HR.out.1 (below_lit2 w _ _)) HR.out.2 k2).mono ?_
  rintro e w1 ⟨rfl, hb⟩
  have HB1 : Hd (Below w.heap.size w w1) := ⟨Below.next (below_lit2 w _ _) hb⟩
  clear hb k1 k2
  go_wp2_with fail
  go_ret
  exact ⟨rfl, HB1.out⟩

end Go.Proofs.Ytfgicjglinmclaa
