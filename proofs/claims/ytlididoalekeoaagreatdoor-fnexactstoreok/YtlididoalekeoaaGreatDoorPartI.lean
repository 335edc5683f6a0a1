/- The parts of a Tab as records, in the program: a list whose rows are the Tab's own. -/
import Derived.Test.YtlididoalekeoaaGreatDoorPartP
import Derived.Test.YtlididoalekeoaaGreatDoorDeepOn
import Derived.Test.YtlididoalekeoaaGreatDoorSameP
import Derived.Test.YtlididoalekeoaaGreatDoorDpTab
import Derived.Test.YtlididoalekeoaaGreatDoorDpRec
import Derived.Test.YtlididoalekeoaaGreatDoorExact
namespace Go.Proofs.YtlididoalekeoaaGreatDoor
set_option maxRecDepth 4000
open Go.RowKit

theorem infoRecE : (Tryz.prog.info? 83).map (fun i => (i.zero, i.size, i.bytes)) = some (some (.agg #[.int .i64 0, .string ⟨#[]⟩, .int .i64 0, .slice none 0 0, .int .i64 0, .slice none 0 0, .int .i64 0, .bool false, .string ⟨#[]⟩, .int .i64 0, .int .i64 0, .int .i64 0, .int .i64 0]), 13, 152) := by kernel_rfl
theorem rowR_rc {w : World} {k : ByteArray} {t1 t2 has : Int} {b1 b2 : List UInt8} {asd : Bool} {x12 x22 : Option Addr} {x13 x14 x23 x24 : Nat} (h : RcRow w [.string k, .int .i64 t1, .slice x12 x13 x14, .int .i64 t2, .slice x22 x23 x24, .int .i64 has, .bool asd] ⟨k, t1, b1, t2, b2, has, asd⟩) :
    RcRec w [.int .i64 1, .string k, .int .i64 t1, .slice x12 x13 x14, .int .i64 t2, .slice x22 x23 x24, .int .i64 has, .bool asd, .string ⟨#[]⟩, .int .i64 0, .int .i64 0, .int .i64 0, .int .i64 0] (rowR ⟨k, t1, b1, t2, b2, has, asd⟩) :=
  ⟨_, _, _, _, _, _, rfl, Nat.zero_le _, h⟩
theorem zrow_rc (w : World) : RcRow w [.string ⟨#[]⟩, .int .i64 0, .slice none 0 0, .int .i64 0, .slice none 0 0, .int .i64 0, .bool false] ⟨⟨#[]⟩, 0, [], 0, [], 0, false⟩ :=
  ⟨none, 0, 0, none, 0, 0, rfl, Nat.zero_le _, ⟨none, 0, 0, rfl, ⟨none, 0, 0, rfl, Nat.zero_le _, .inl ⟨rfl, rfl, rfl, rfl⟩⟩⟩, ⟨none, 0, 0, rfl, ⟨none, 0, 0, rfl, Nat.zero_le _, .inl ⟨rfl, rfl, rfl, rfl⟩⟩⟩⟩
theorem markR_rc (w : World) (q0 q1 q2 : Int) : RcRec w [.int .i64 4, .string ⟨#[]⟩, .int .i64 0, .slice none 0 0, .int .i64 0, .slice none 0 0, .int .i64 0, .bool false, .string ⟨#[]⟩, .int .i64 0, .int .i64 q0, .int .i64 q1, .int .i64 q2] (markR ⟨q0, q1, q2⟩) := ⟨none, 0, 0, none, 0, 0, rfl, Nat.zero_le _, zrow_rc w⟩
theorem phaseR_rc (w : World) (l1 : Int) : RcRec w [.int .i64 3, .string ⟨#[]⟩, .int .i64 0, .slice none 0 0, .int .i64 0, .slice none 0 0, .int .i64 0, .bool false, .string ⟨#[]⟩, .int .i64 l1, .int .i64 0, .int .i64 0, .int .i64 0] (phaseR l1) := ⟨none, 0, 0, none, 0, 0, rfl, Nat.zero_le _, zrow_rc w⟩
abbrev RcRecL : Rd (List RecD) := RdS 13 RcRec

set_option maxHeartbeats 8000000 in
theorem partsOf_rd (cs : List Value) (a : TabD) (w : World) (h : RcTab w cs a) (hw : wtTab a ≤ 1073741824) :
    Calls Tryz.prog 38 #[.agg cs.toArray] w (AnsRS RcRecL (partsL a) w) := by
  obtain ⟨l0, l1, l2⟩ := a
  simp only [RcTab] at h
  obtain ⟨x0, m0, d0, x2, m2, d2, rfl, r1, r2⟩ := h
  unfold wtTab at hw
  dsimp only at hw
  have HL : (RcRowS w [.slice x0 m0 d0] l0 ∧ RcMarkS w [.slice x2 m2 d2] l2) := ⟨r1, r2⟩
  have HN : Hd (l0.length = m0 ∧ l2.length = m2 ∧ m0 ≤ 1073741824 ∧ m2 ≤ 1073741824) := ⟨(rdS_len r1).1, (rdS_len r2).1, by
    have h1 := wtS_len wtRow l0; have h2 : wtRowS l0 = wtS wtRow l0 := rfl; have := (rdS_len r1).1; omega, by
    have h1 := wtS_len wtMark l2; have h2 : wtMarkS l2 = wtS wtMark l2 := rfl; have := (rdS_len r2).1; omega⟩
  have hm0 : m0 ≤ 1073741824 := HN.out.2.2.1
  have hm2 : m2 ≤ 1073741824 := HN.out.2.2.2
  clear r1 r2 hw
  obtain ⟨i1, hi1, hz1, hs1, hb1⟩ := info_parts infoRecE
  obtain ⟨k1, k2⟩ := laid2 w (.cells #[Value.slice x0 m0 d0, Value.int IntKind.i64 l1, Value.slice x2 m2 d2] 40) (.cells #[Value.int .i64 3, .string ⟨#[]⟩, .int .i64 0, .slice none 0 0, .int .i64 0, .slice none 0 0, .int .i64 0, .bool false, .string ⟨#[]⟩, .int .i64 l1, .int .i64 0, .int .i64 0, .int .i64 0] 83)
  have H0 : Hd (∃ F, OwS 13 83 (OwOn RcRec w) ((w.alloc (.cells #[Value.slice x0 m0 d0, Value.int IntKind.i64 l1, Value.slice x2 m2 d2] 40)).alloc (.cells #[Value.int .i64 3, .string ⟨#[]⟩, .int .i64 0, .slice none 0 0, .int .i64 0, .slice none 0 0, .int .i64 0, .bool false, .string ⟨#[]⟩, .int .i64 l1, .int .i64 0, .int .i64 0, .int .i64 0] 83)) [.slice (some ⟨w.heap.size + 1, 0, none⟩) 1 1] F (phaseR l1 :: (l0.take 0).map rowR) ∧ (∀ x, F x → w.heap.size + 1 ≤ x) ∧ Below w.heap.size w ((w.alloc (.cells #[Value.slice x0 m0 d0, Value.int IntKind.i64 l1, Value.slice x2 m2 d2] 40)).alloc (.cells #[Value.int .i64 3, .string ⟨#[]⟩, .int .i64 0, .slice none 0 0, .int .i64 0, .slice none 0 0, .int .i64 0, .bool false, .string ⟨#[]⟩, .int .i64 l1, .int .i64 0, .int .i64 0, .int .i64 0] 83)) ∧ ((w.alloc (.cells #[Value.slice x0 m0 d0, Value.int IntKind.i64 l1, Value.slice x2 m2 d2] 40)).alloc (.cells #[Value.int .i64 3, .string ⟨#[]⟩, .int .i64 0, .slice none 0 0, .int .i64 0, .slice none 0 0, .int .i64 0, .bool false, .string ⟨#[]⟩, .int .i64 l1, .int .i64 0, .int .i64 0, .int .i64 0] 83)).heap[w.heap.size]? = some (.cells #[Value.slice x0 m0 d0, Value.int IntKind.i64 l1, Value.slice x2 m2 d2] 40 (0, 0))) := ⟨fun x => x = w.heap.size + 1, owS_one (c := [.int .i64 3, .string ⟨#[]⟩, .int .i64 0, .slice none 0 0, .int .i64 0, .slice none 0 0, .int .i64 0, .bool false, .string ⟨#[]⟩, .int .i64 l1, .int .i64 0, .int .i64 0, .int .i64 0]) k2 rfl (phaseR_rc w l1), fun x hx => by omega, below_lit2 w _ _, k1⟩
  clear k1 k2
  go_enter Tryz.func38, Tryz.ntmps38
  go_wp2_with fail
  generalize (w.alloc (.cells #[Value.slice x0 m0 d0, Value.int IntKind.i64 l1, Value.slice x2 m2 d2] 40)).alloc (.cells #[Value.int .i64 3, .string ⟨#[]⟩, .int .i64 0, .slice none 0 0, .int .i64 0, .slice none 0 0, .int .i64 0, .bool false, .string ⟨#[]⟩, .int .i64 l1, .int .i64 0, .int .i64 0, .int .i64 0] 83) = W0 at *
  go_loopw [15, 3] (fun i v wr => ∃ k : Nat, k ≤ m0 ∧ i = .int .i64 k ∧ ∃ y n cc, v = .slice y n cc ∧ Hd (∃ F, OwS 13 83 (OwOn RcRec w) wr [.slice y n cc] F (phaseR l1 :: (l0.take k).map rowR) ∧ (∀ x, F x → w.heap.size + 1 ≤ x) ∧ Below w.heap.size w wr ∧ wr.heap[w.heap.size]? = some (.cells #[Value.slice x0 m0 d0, Value.int IntKind.i64 l1, Value.slice x2 m2 d2] 40 (0, 0)))) (fun i _ _ => m0 - (intOf i).toNat)
  case atStart => exact ⟨0, Nat.zero_le _, rfl, _, _, _, rfl, H0⟩
  case round =>
    obtain ⟨k, hk, rfl, y, n, cc, rfl, HK⟩ := hrel
    clear H0
    by_cases hlt : k < m0
    · have hlt' : (k : Int) < (m0 : Int) := by omega
      have h0 : (0 : Int) ≤ (k : Int) := by omega
      obtain ⟨a, ha⟩ := get_some (l := l0) (j := k) (by rw [HN.out.1]; exact hlt)
      obtain ⟨b1, o1, c1, e1, _, r1, z1⟩ := rdS_get HL.1 ha
      subst e1
      have HS : Hd (phaseR l1 :: (l0.take (k + 1)).map rowR = (phaseR l1 :: (l0.take k).map rowR) ++ [rowR a]) := ⟨by rw [List.take_add_one, ha]; simp⟩
      have HLN : Hd ((phaseR l1 :: (l0.take k).map rowR).length ≤ 3221225473) := ⟨by have := HN.out; simp; omega⟩
      obtain ⟨F, hO, hF, hB, hX⟩ := HK.out
      have hRc := r1
      obtain ⟨q0, q1, q2, q3, q4, q5, q6⟩ := a
      obtain ⟨x12, x13, x14, x22, x23, x24, rfl, _⟩ := r1
      have HEW : Hd (RcRec w [.int .i64 1, .string q0, .int .i64 q1, .slice x12 x13 x14, .int .i64 q3, .slice x22 x23 x24, .int .i64 q5, .bool q6, .string ⟨#[]⟩, .int .i64 0, .int .i64 0, .int .i64 0, .int .i64 0] (rowR ⟨q0, q1, q2, q3, q4, q5, q6⟩)) := ⟨rowR_rc hRc⟩
      have t0 := cell_below (z1 0 _ rfl) hB
      have t1 := cell_below (z1 1 _ rfl) hB
      have t2 := cell_below (z1 2 _ rfl) hB
      have t3 := cell_below (z1 3 _ rfl) hB
      have t4 := cell_below (z1 4 _ rfl) hB
      have t5 := cell_below (z1 5 _ rfl) hB
      have t6 := cell_below (z1 6 _ rfl) hB
      simp only [Nat.add_zero] at t0
      have HX : Hd (∃ F, OwS 13 83 (OwOn RcRec w) ((wr.alloc (.cells #[Value.string q0, .int .i64 q1, .slice x12 x13 x14, .int .i64 q3, .slice x22 x23 x24, .int .i64 q5, .bool q6] 67)).alloc (.cells #[Value.int .i64 1, .string q0, .int .i64 q1, .slice x12 x13 x14, .int .i64 q3, .slice x22 x23 x24, .int .i64 q5, .bool q6, .string ⟨#[]⟩, .int .i64 0, .int .i64 0, .int .i64 0, .int .i64 0] 83)) [.slice y n cc] F (phaseR l1 :: (l0.take k).map rowR) ∧ (∀ x, F x → w.heap.size + 1 ≤ x) ∧ Below w.heap.size w ((wr.alloc (.cells #[Value.string q0, .int .i64 q1, .slice x12 x13 x14, .int .i64 q3, .slice x22 x23 x24, .int .i64 q5, .bool q6] 67)).alloc (.cells #[Value.int .i64 1, .string q0, .int .i64 q1, .slice x12 x13 x14, .int .i64 q3, .slice x22 x23 x24, .int .i64 q5, .bool q6, .string ⟨#[]⟩, .int .i64 0, .int .i64 0, .int .i64 0, .int .i64 0] 83)) ∧ ((wr.alloc (.cells #[Value.string q0, .int .i64 q1, .slice x12 x13 x14, .int .i64 q3, .slice x22 x23 x24, .int .i64 q5, .bool q6] 67)).alloc (.cells #[Value.int .i64 1, .string q0, .int .i64 q1, .slice x12 x13 x14, .int .i64 q3, .slice x22 x23 x24, .int .i64 q5, .bool q6, .string ⟨#[]⟩, .int .i64 0, .int .i64 0, .int .i64 0, .int .i64 0] 83)).heap[w.heap.size]? = some (.cells #[Value.slice (some ⟨b1, o1, none⟩) m0 d0, Value.int IntKind.i64 l1, Value.slice x2 m2 d2] 40 (0, 0))) := ⟨F, (owS_ok (owOn_ok rcRec_ok w)).below ((owS_ok (owOn_ok rcRec_ok w)).below hO (below_lit _ _)) (below_lit _ _), hF, Below.next (Below.next hB (below_lit _ _)) (below_lit _ _), ((below_lit _ _).block _ (by simp; have := block_lt hX; omega)).trans (((below_lit _ _).block _ (block_lt hX)).trans hX)⟩
      clear hO hF hB HK ha z1 hX hRc
      obtain ⟨F, HX1⟩ : ∃ F, Hd (OwS 13 83 (OwOn RcRec w) ((wr.alloc (.cells #[Value.string q0, .int .i64 q1, .slice x12 x13 x14, .int .i64 q3, .slice x22 x23 x24, .int .i64 q5, .bool q6] 67)).alloc (.cells #[Value.int .i64 1, .string q0, .int .i64 q1, .slice x12 x13 x14, .int .i64 q3, .slice x22 x23 x24, .int .i64 q5, .bool q6, .string ⟨#[]⟩, .int .i64 0, .int .i64 0, .int .i64 0, .int .i64 0] 83)) [.slice y n cc] F (phaseR l1 :: (l0.take k).map rowR) ∧ (∀ x, F x → w.heap.size + 1 ≤ x) ∧ Below w.heap.size w ((wr.alloc (.cells #[Value.string q0, .int .i64 q1, .slice x12 x13 x14, .int .i64 q3, .slice x22 x23 x24, .int .i64 q5, .bool q6] 67)).alloc (.cells #[Value.int .i64 1, .string q0, .int .i64 q1, .slice x12 x13 x14, .int .i64 q3, .slice x22 x23 x24, .int .i64 q5, .bool q6, .string ⟨#[]⟩, .int .i64 0, .int .i64 0, .int .i64 0, .int .i64 0] 83)) ∧ ((wr.alloc (.cells #[Value.string q0, .int .i64 q1, .slice x12 x13 x14, .int .i64 q3, .slice x22 x23 x24, .int .i64 q5, .bool q6] 67)).alloc (.cells #[Value.int .i64 1, .string q0, .int .i64 q1, .slice x12 x13 x14, .int .i64 q3, .slice x22 x23 x24, .int .i64 q5, .bool q6, .string ⟨#[]⟩, .int .i64 0, .int .i64 0, .int .i64 0, .int .i64 0] 83)).heap[w.heap.size]? = some (.cells #[Value.slice (some ⟨b1, o1, none⟩) m0 d0, Value.int IntKind.i64 l1, Value.slice x2 m2 d2] 40 (0, 0))) := by obtain ⟨F, h⟩ := HX.out; exact ⟨F, ⟨h⟩⟩
      clear HX
      go_wp2_with (at_builtin; refine wpList_push rfl (owOn_ok rcRec_ok w) (.tmp 19) (.tmp 22) 81 rfl Tryz.underlying81 hi1 hz1 hs1 hb1 rfl (by omega) (v := .slice y n cc) rfl HX1.out.1 (q := wr.heap.size + 1) (c' := [.int .i64 1, .string q0, .int .i64 q1, .slice x12 x13 x14, .int .i64 q3, .slice x22 x23 x24, .int .i64 q5, .bool q6, .string ⟨#[]⟩, .int .i64 0, .int .i64 0, .int .i64 0, .int .i64 0]) (a' := rowR (⟨q0, q1, q2, q3, q4, q5, q6⟩ : RowD)) (G := fun _ => False) rfl (alloc_new (wr.alloc (.cells #[Value.string q0, .int .i64 q1, .slice x12 x13 x14, .int .i64 q3, .slice x22 x23 x24, .int .i64 q5, .bool q6] 67)) _ (by simp)) rfl (by intro u hu; simp only [List.mem_cons, List.not_mem_nil, or_false] at hu; rcases hu with rfl | rfl | rfl | rfl | rfl | rfl | rfl | rfl | rfl | rfl | rfl | rfl | rfl <;> rfl) ⟨fun _ h => h, HEW.out⟩ (fun _ h => h.elim) (by have := HLN.out; unfold maxLen; omega) (by have := HLN.out; omega) ?_)
      intro v' wz F' hOw hF' hgrow
      obtain ⟨x5, n5, d5, hv'⟩ : ∃ x2 n2 d2, v' = .slice x2 n2 d2 := by
        obtain ⟨x2, d2, e, _⟩ := owS_slice hOw
        exact ⟨x2, _, d2, e⟩
      subst hv'
      have HNX : Hd (∃ F, OwS 13 83 (OwOn RcRec w) wz [.slice x5 n5 d5] F (phaseR l1 :: (l0.take (k + 1)).map rowR) ∧ (∀ x, F x → w.heap.size + 1 ≤ x) ∧ Below w.heap.size w wz ∧ wz.heap[w.heap.size]? = some (.cells #[Value.slice (some ⟨b1, o1, none⟩) m0 d0, Value.int IntKind.i64 l1, Value.slice x2 m2 d2] 40 (0, 0))) := ⟨F', by
        rw [HS.out]
        have h7 := grown_on HX1.out.1 HX1.out.2.1 HX1.out.2.2.1 (by omega) hOw hF' (by have := block_lt HX1.out.2.2.2; simp only [World.size_alloc] at this; omega) hgrow (by omega) HX1.out.2.2.2
        simp only [List.map_take, List.cons_append] at h7 ⊢
        exact h7⟩
      clear hOw hF' hgrow HX1 HS HEW HLN t0 t1 t2 t3 t4 t5 t6
      go_wp2_with fail
      go_roundw
      case rel => exact ⟨k + 1, by omega, by go_num, x5, n5, d5, rfl, HNX⟩
      case measure => simp [intOf]; omega
    · have HK2 : Hd (∃ F, OwS 13 83 (OwOn RcRec w) wr [.slice y n cc] F (phaseR l1 :: (l0.map rowR ++ (l2.take 0).map markR)) ∧ (∀ x, F x → w.heap.size + 1 ≤ x) ∧ Below w.heap.size w wr ∧ wr.heap[w.heap.size]? = some (.cells #[Value.slice x0 m0 d0, Value.int IntKind.i64 l1, Value.slice x2 m2 d2] 40 (0, 0))) := ⟨by
        have h7 := HK.out
        rw [List.take_of_length_le (by have := HN.out; omega)] at h7
        simpa using h7⟩
      have c2 := cellsA (HK.out.choose_spec.2.2.2) 2 rfl
      clear HK
      go_wp2_with fail
      clear c2
      obtain ⟨W1, hW1⟩ : ∃ W, W = wr := ⟨_, rfl⟩
      subst hW1
      have H0 := HK2
      clear HK2
      go_loopw [28, 3] (fun i v wr => ∃ k : Nat, k ≤ m2 ∧ i = .int .i64 k ∧ ∃ y n cc, v = .slice y n cc ∧ Hd (∃ F, OwS 13 83 (OwOn RcRec w) wr [.slice y n cc] F (phaseR l1 :: (l0.map rowR ++ (l2.take k).map markR)) ∧ (∀ x, F x → w.heap.size + 1 ≤ x) ∧ Below w.heap.size w wr ∧ wr.heap[w.heap.size]? = some (.cells #[Value.slice x0 m0 d0, Value.int IntKind.i64 l1, Value.slice x2 m2 d2] 40 (0, 0)))) (fun i _ _ => m2 - (intOf i).toNat)
      case atStart => exact ⟨0, Nat.zero_le _, rfl, _, _, _, rfl, H0⟩
      case round =>
        obtain ⟨k, hk, rfl, y, n, cc, rfl, HK⟩ := hrel
        clear H0
        by_cases hlt : k < m2
        · have hlt' : (k : Int) < (m2 : Int) := by omega
          have h0 : (0 : Int) ≤ (k : Int) := by omega
          obtain ⟨a, ha⟩ := get_some (l := l2) (j := k) (by rw [HN.out.2.1]; exact hlt)
          obtain ⟨b1, o1, c1, e1, _, r1, z1⟩ := rdS_get HL.2 ha
          subst e1
          have HS : Hd (phaseR l1 :: (l0.map rowR ++ (l2.take (k + 1)).map markR) = (phaseR l1 :: (l0.map rowR ++ (l2.take k).map markR)) ++ [markR a]) := ⟨by rw [List.take_add_one, ha]; simp⟩
          have HLN : Hd ((phaseR l1 :: (l0.map rowR ++ (l2.take k).map markR)).length ≤ 3221225473) := ⟨by have := HN.out; simp; omega⟩
          obtain ⟨F, hO, hF, hB, hX⟩ := HK.out
          obtain ⟨q0, q1, q2⟩ := a
          simp only [RcMark] at r1
          subst r1
          have HEW : Hd (RcRec w [.int .i64 4, .string ⟨#[]⟩, .int .i64 0, .slice none 0 0, .int .i64 0, .slice none 0 0, .int .i64 0, .bool false, .string ⟨#[]⟩, .int .i64 0, .int .i64 q0, .int .i64 q1, .int .i64 q2] (markR ⟨q0, q1, q2⟩)) := ⟨markR_rc w _ _ _⟩
          have t0 := cell_below (z1 0 _ rfl) hB
          have t1 := cell_below (z1 1 _ rfl) hB
          have t2 := cell_below (z1 2 _ rfl) hB
          simp only [Nat.add_zero] at t0
          have HX : Hd (∃ F, OwS 13 83 (OwOn RcRec w) ((wr.alloc (.cells #[Value.int .i64 q0, .int .i64 q1, .int .i64 q2] 70)).alloc (.cells #[Value.int .i64 4, .string ⟨#[]⟩, .int .i64 0, .slice none 0 0, .int .i64 0, .slice none 0 0, .int .i64 0, .bool false, .string ⟨#[]⟩, .int .i64 0, .int .i64 q0, .int .i64 q1, .int .i64 q2] 83)) [.slice y n cc] F (phaseR l1 :: (l0.map rowR ++ (l2.take k).map markR)) ∧ (∀ x, F x → w.heap.size + 1 ≤ x) ∧ Below w.heap.size w ((wr.alloc (.cells #[Value.int .i64 q0, .int .i64 q1, .int .i64 q2] 70)).alloc (.cells #[Value.int .i64 4, .string ⟨#[]⟩, .int .i64 0, .slice none 0 0, .int .i64 0, .slice none 0 0, .int .i64 0, .bool false, .string ⟨#[]⟩, .int .i64 0, .int .i64 q0, .int .i64 q1, .int .i64 q2] 83)) ∧ ((wr.alloc (.cells #[Value.int .i64 q0, .int .i64 q1, .int .i64 q2] 70)).alloc (.cells #[Value.int .i64 4, .string ⟨#[]⟩, .int .i64 0, .slice none 0 0, .int .i64 0, .slice none 0 0, .int .i64 0, .bool false, .string ⟨#[]⟩, .int .i64 0, .int .i64 q0, .int .i64 q1, .int .i64 q2] 83)).heap[w.heap.size]? = some (.cells #[Value.slice x0 m0 d0, Value.int IntKind.i64 l1, Value.slice (some ⟨b1, o1, none⟩) m2 d2] 40 (0, 0))) := ⟨F, (owS_ok (owOn_ok rcRec_ok w)).below ((owS_ok (owOn_ok rcRec_ok w)).below hO (below_lit _ _)) (below_lit _ _), hF, Below.next (Below.next hB (below_lit _ _)) (below_lit _ _), ((below_lit _ _).block _ (by simp; have := block_lt hX; omega)).trans (((below_lit _ _).block _ (block_lt hX)).trans hX)⟩
          clear hO hF hB HK ha z1 hX
          obtain ⟨F, HX1⟩ : ∃ F, Hd (OwS 13 83 (OwOn RcRec w) ((wr.alloc (.cells #[Value.int .i64 q0, .int .i64 q1, .int .i64 q2] 70)).alloc (.cells #[Value.int .i64 4, .string ⟨#[]⟩, .int .i64 0, .slice none 0 0, .int .i64 0, .slice none 0 0, .int .i64 0, .bool false, .string ⟨#[]⟩, .int .i64 0, .int .i64 q0, .int .i64 q1, .int .i64 q2] 83)) [.slice y n cc] F (phaseR l1 :: (l0.map rowR ++ (l2.take k).map markR)) ∧ (∀ x, F x → w.heap.size + 1 ≤ x) ∧ Below w.heap.size w ((wr.alloc (.cells #[Value.int .i64 q0, .int .i64 q1, .int .i64 q2] 70)).alloc (.cells #[Value.int .i64 4, .string ⟨#[]⟩, .int .i64 0, .slice none 0 0, .int .i64 0, .slice none 0 0, .int .i64 0, .bool false, .string ⟨#[]⟩, .int .i64 0, .int .i64 q0, .int .i64 q1, .int .i64 q2] 83)) ∧ ((wr.alloc (.cells #[Value.int .i64 q0, .int .i64 q1, .int .i64 q2] 70)).alloc (.cells #[Value.int .i64 4, .string ⟨#[]⟩, .int .i64 0, .slice none 0 0, .int .i64 0, .slice none 0 0, .int .i64 0, .bool false, .string ⟨#[]⟩, .int .i64 0, .int .i64 q0, .int .i64 q1, .int .i64 q2] 83)).heap[w.heap.size]? = some (.cells #[Value.slice x0 m0 d0, Value.int IntKind.i64 l1, Value.slice (some ⟨b1, o1, none⟩) m2 d2] 40 (0, 0))) := by obtain ⟨F, h⟩ := HX.out; exact ⟨F, ⟨h⟩⟩
          clear HX
          go_wp2_with (at_builtin; refine wpList_push rfl (owOn_ok rcRec_ok w) (.tmp 32) (.tmp 40) 81 rfl Tryz.underlying81 hi1 hz1 hs1 hb1 rfl (by omega) (v := .slice y n cc) rfl HX1.out.1 (q := wr.heap.size + 1) (c' := [.int .i64 4, .string ⟨#[]⟩, .int .i64 0, .slice none 0 0, .int .i64 0, .slice none 0 0, .int .i64 0, .bool false, .string ⟨#[]⟩, .int .i64 0, .int .i64 q0, .int .i64 q1, .int .i64 q2]) (a' := markR (⟨q0, q1, q2⟩ : MarkD)) (G := fun _ => False) rfl (alloc_new (wr.alloc (.cells #[Value.int .i64 q0, .int .i64 q1, .int .i64 q2] 70)) _ (by simp)) rfl (by intro u hu; simp only [List.mem_cons, List.not_mem_nil, or_false] at hu; rcases hu with rfl | rfl | rfl | rfl | rfl | rfl | rfl | rfl | rfl | rfl | rfl | rfl | rfl <;> rfl) ⟨fun _ h => h, HEW.out⟩ (fun _ h => h.elim) (by have := HLN.out; unfold maxLen; omega) (by have := HLN.out; omega) ?_)
          intro v' wz F' hOw hF' hgrow
          obtain ⟨x5, n5, d5, hv'⟩ : ∃ x2 n2 d2, v' = .slice x2 n2 d2 := by
            obtain ⟨x2, d2, e, _⟩ := owS_slice hOw
            exact ⟨x2, _, d2, e⟩
          subst hv'
          have HNX : Hd (∃ F, OwS 13 83 (OwOn RcRec w) wz [.slice x5 n5 d5] F (phaseR l1 :: (l0.map rowR ++ (l2.take (k + 1)).map markR)) ∧ (∀ x, F x → w.heap.size + 1 ≤ x) ∧ Below w.heap.size w wz ∧ wz.heap[w.heap.size]? = some (.cells #[Value.slice x0 m0 d0, Value.int IntKind.i64 l1, Value.slice (some ⟨b1, o1, none⟩) m2 d2] 40 (0, 0))) := ⟨F', by
            rw [HS.out]
            have h7 := grown_on HX1.out.1 HX1.out.2.1 HX1.out.2.2.1 (by omega) hOw hF' (by have := block_lt HX1.out.2.2.2; simp only [World.size_alloc] at this; omega) hgrow (by omega) HX1.out.2.2.2
            simp only [List.map_take, List.cons_append, List.append_assoc] at h7 ⊢
            exact h7⟩
          clear hOw hF' hgrow HX1 HS HEW HLN t0 t1 t2
          go_wp2_with fail
          go_roundw
          case rel => exact ⟨k + 1, by omega, by go_num, x5, n5, d5, rfl, HNX⟩
          case measure => simp [intOf]; omega
        · have HZ : Hd (RcRecL wr [.slice y n cc] (partsL ⟨l0, l1, l2⟩) ∧ Below w.heap.size w wr) := ⟨by
            obtain ⟨F, hO, hF, hB, hX⟩ := HK.out
            rw [List.take_of_length_le (by have := HN.out; omega)] at hO
            exact ⟨rdOn_to rcRec_ok hB (owS_rd (owOn_ok rcRec_ok w) hO), hB⟩⟩
          clear HK
          go_wp2_with fail
          go_ret
          exact ⟨⟨_, _, _, rfl, HZ.out.1⟩, HZ.out.2⟩

end Go.Proofs.YtlididoalekeoaaGreatDoor
