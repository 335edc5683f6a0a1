/- Parts of the proof, one behind the other. -/
import Derived.Test.YtlididoalekeoaaMxRecsOf10
import Derived.Test.YtlididoalekeoaaMxRecsOf8
import Derived.Test.YtlididoalekeoaaMxRecsOf9
import Derived.Test.YtlididoalekeoaaMxRecsOf7
import Derived.Test.YtlididoalekeoaaMxRecsOf5
import Derived.Deep.RegionHeld3
/- The parts of a Tab as records, in the program: a list whose rows are the Tab's own. -/
namespace Go.Proofs.Ytlididoalekeoaa
set_option maxRecDepth 4000
open Go.RowKit

theorem infoRecE : (Try.prog.info? 86).map (fun i => (i.zero, i.size, i.bytes)) = some (some (.agg #[.int .i64 0, .string ⟨#[]⟩, .int .i64 0, .slice none 0 0, .int .i64 0, .slice none 0 0, .int .i64 0, .bool false, .string ⟨#[]⟩, .int .i64 0, .int .i64 0, .int .i64 0, .int .i64 0]), 13, 152) := by kernel_rfl
theorem rowR_rc {w : World} {k : ByteArray} {t1 t2 has : Int} {b1 b2 : List UInt8} {asd : Bool} {x12 x22 : Option Addr} {x13 x14 x23 x24 : Nat} (h : RcRow w [.string k, .int .i64 t1, .slice x12 x13 x14, .int .i64 t2, .slice x22 x23 x24, .int .i64 has, .bool asd] ⟨k, t1, b1, t2, b2, has, asd⟩) :
    RcRec w [.int .i64 1, .string k, .int .i64 t1, .slice x12 x13 x14, .int .i64 t2, .slice x22 x23 x24, .int .i64 has, .bool asd, .string ⟨#[]⟩, .int .i64 0, .int .i64 0, .int .i64 0, .int .i64 0] (rowR ⟨k, t1, b1, t2, b2, has, asd⟩) :=
  ⟨_, _, _, _, _, _, rfl, Nat.zero_le _, h⟩
theorem zrow_rc (w : World) : RcRow w [.string ⟨#[]⟩, .int .i64 0, .slice none 0 0, .int .i64 0, .slice none 0 0, .int .i64 0, .bool false] ⟨⟨#[]⟩, 0, [], 0, [], 0, false⟩ :=
  ⟨none, 0, 0, none, 0, 0, rfl, Nat.zero_le _, ⟨none, 0, 0, rfl, ⟨none, 0, 0, rfl, Nat.zero_le _, .inl ⟨rfl, rfl, rfl, rfl⟩⟩⟩, ⟨none, 0, 0, rfl, ⟨none, 0, 0, rfl, Nat.zero_le _, .inl ⟨rfl, rfl, rfl, rfl⟩⟩⟩⟩
theorem markR_rc (w : World) (q0 q1 q2 : Int) : RcRec w [.int .i64 4, .string ⟨#[]⟩, .int .i64 0, .slice none 0 0, .int .i64 0, .slice none 0 0, .int .i64 0, .bool false, .string ⟨#[]⟩, .int .i64 0, .int .i64 q0, .int .i64 q1, .int .i64 q2] (markR ⟨q0, q1, q2⟩) := ⟨none, 0, 0, none, 0, 0, rfl, Nat.zero_le _, zrow_rc w⟩
theorem phaseR_rc (w : World) (l1 : Int) : RcRec w [.int .i64 3, .string ⟨#[]⟩, .int .i64 0, .slice none 0 0, .int .i64 0, .slice none 0 0, .int .i64 0, .bool false, .string ⟨#[]⟩, .int .i64 l1, .int .i64 0, .int .i64 0, .int .i64 0] (phaseR l1) := ⟨none, 0, 0, none, 0, 0, rfl, Nat.zero_le _, zrow_rc w⟩
abbrev RcRecL : Rd (List RecD) := RdS 13 RcRec

set_option maxHeartbeats 8000000 in
theorem partsOf_rd (cs : List Value) (a : TabD) (w : World) (h : RcTab w cs a) (hw : wtTab a ≤ 1073741824) :
    Calls Try.prog 69 #[.agg cs.toArray] w (AnsRS RcRecL (partsL a) w) := by
  obtain ⟨l0, l1, l2⟩ := a
  simp only [RcTab] at h
  obtain ⟨x0, m0, d0, x2, m2, d2, rfl, r1, r2⟩ := h
  unfold wtTab at hw
  dsimp only at hw
  have HL : (RcRowS w [.slice x0 m0 d0] l0 ∧ RcMarkS w [.slice x2 m2 d2] l2) := ⟨r1, r2⟩
  have HN : Hd (l0.length = m0 ∧ l2.length = m2 ∧ m0 ≤ 1073741824 ∧ m2 ≤ 1073741824) := ⟨(rdS_len r1).1, (rdS_len r2).1, by
    have h1 := wtS_len wtRow l0; have h2 : wtRowS l0 = wtS wtRow l0 := rfl; have := (rdS_len r1).1; omega, by
    have h1 := wtS_len wtMark l2; have h2 : wtMarkS l2 = wtS wtMark l2 := rfl; have := (rdS_len r2).1; omega⟩
  have hm0 : m0 ≤ 1073741824 := HN.out.2.2.1
  have hm2 : m2 ≤ 1073741824 := HN.out.2.2.2
  clear r1 r2 hw
  obtain ⟨i1, hi1, hz1, hs1, hb1⟩ := info_parts infoRecE
  obtain ⟨k1, k2⟩ := laid2 w (.cells #[Value.slice x0 m0 d0, Value.int IntKind.i64 l1, Value.slice x2 m2 d2] 43) (.cells #[Value.int .i64 3, .string ⟨#[]⟩, .int .i64 0, .slice none 0 0, .int .i64 0, .slice none 0 0, .int .i64 0, .bool false, .string ⟨#[]⟩, .int .i64 l1, .int .i64 0, .int .i64 0, .int .i64 0] 86)
  have H0 : Hd (∃ F, OwS 13 86 (OwOn RcRec w) ((w.alloc (.cells #[Value.slice x0 m0 d0, Value.int IntKind.i64 l1, Value.slice x2 m2 d2] 43)).alloc (.cells #[Value.int .i64 3, .string ⟨#[]⟩, .int .i64 0, .slice none 0 0, .int .i64 0, .slice none 0 0, .int .i64 0, .bool false, .string ⟨#[]⟩, .int .i64 l1, .int .i64 0, .int .i64 0, .int .i64 0] 86)) [.slice (some ⟨w.heap.size + 1, 0, none⟩) 1 1] F (phaseR l1 :: (l0.take 0).map rowR) ∧ (∀ x, F x → w.heap.size + 1 ≤ x) ∧ Below w.heap.size w ((w.alloc (.cells #[Value.slice x0 m0 d0, Value.int IntKind.i64 l1, Value.slice x2 m2 d2] 43)).alloc (.cells #[Value.int .i64 3, .string ⟨#[]⟩, .int .i64 0, .slice none 0 0, .int .i64 0, .slice none 0 0, .int .i64 0, .bool false, .string ⟨#[]⟩, .int .i64 l1, .int .i64 0, .int .i64 0, .int .i64 0] 86)) ∧ ((w.alloc (.cells #[Value.slice x0 m0 d0, Value.int IntKind.i64 l1, Value.slice x2 m2 d2] 43)).alloc (.cells #[Value.int .i64 3, .string ⟨#[]⟩, .int .i64 0, .slice none 0 0, .int .i64 0, .slice none 0 0, .int .i64 0, .bool false, .string ⟨#[]⟩, .int .i64 l1, .int .i64 0, .int .i64 0, .int .i64 0] 86)).heap[w.heap.size]? = some (.cells #[Value.slice x0 m0 d0, Value.int IntKind.i64 l1, Value.slice x2 m2 d2] 43 (0, 0))) := ⟨fun x => x = w.heap.size + 1, owS_one (c := [.int .i64 3, .string ⟨#[]⟩, .int .i64 0, .slice none 0 0, .int .i64 0, .slice none 0 0, .int .i64 0, .bool false, .string ⟨#[]⟩, .int .i64 l1, .int .i64 0, .int .i64 0, .int .i64 0]) k2 rfl (phaseR_rc w l1), fun x hx => by omega, below_lit2 w _ _, k1⟩
  clear k1 k2
  go_enter Try.func69, Try.ntmps69
  go_wp2_with fail
  generalize (w.alloc (.cells #[Value.slice x0 m0 d0, Value.int IntKind.i64 l1, Value.slice x2 m2 d2] 43)).alloc (.cells #[Value.int .i64 3, .string ⟨#[]⟩, .int .i64 0, .slice none 0 0, .int .i64 0, .slice none 0 0, .int .i64 0, .bool false, .string ⟨#[]⟩, .int .i64 l1, .int .i64 0, .int .i64 0, .int .i64 0] 86) = W0 at *
  go_loopw [15, 3] (fun i v wr => ∃ k : Nat, k ≤ m0 ∧ i = .int .i64 k ∧ ∃ y n cc, v = .slice y n cc ∧ Hd (∃ F, OwS 13 86 (OwOn RcRec w) wr [.slice y n cc] F (phaseR l1 :: (l0.take k).map rowR) ∧ (∀ x, F x → w.heap.size + 1 ≤ x) ∧ Below w.heap.size w wr ∧ wr.heap[w.heap.size]? = some (.cells #[Value.slice x0 m0 d0, Value.int IntKind.i64 l1, Value.slice x2 m2 d2] 43 (0, 0)))) (fun i _ _ => m0 - (intOf i).toNat)
  case atStart => exact ⟨0, Nat.zero_le _, rfl, _, _, _, rfl, H0⟩
  case round =>
    obtain ⟨k, hk, rfl, y, n, cc, rfl, HK⟩ := hrel
    clear H0
    by_cases hlt : k < m0
    · have hlt' : (k : Int) < (m0 : Int) := by omega
      have h0 : (0 : Int) ≤ (k : Int) := by omega
      obtain ⟨a, ha⟩ := get_some (l := l0) (j := k) (by rw [HN.out.1]; exact hlt)
      obtain ⟨b1, o1, c1, e1, _, r1, z1⟩ := rdS_get HL.1 ha
      subst e1
      have HS : Hd (phaseR l1 :: (l0.take (k + 1)).map rowR = (phaseR l1 :: (l0.take k).map rowR) ++ [rowR a]) := ⟨by rw [List.take_add_one, ha]; simp⟩
      have HLN : Hd ((phaseR l1 :: (l0.take k).map rowR).length ≤ 3221225473) := ⟨by have := HN.out; simp; omega⟩
      obtain ⟨F, hO, hF, hB, hX⟩ := HK.out
      have hRc := r1
      obtain ⟨q0, q1, q2, q3, q4, q5, q6⟩ := a
      obtain ⟨x12, x13, x14, x22, x23, x24, rfl, _⟩ := r1
      have HEW : Hd (RcRec w [.int .i64 1, .string q0, .int .i64 q1, .slice x12 x13 x14, .int .i64 q3, .slice x22 x23 x24, .int .i64 q5, .bool q6, .string ⟨#[]⟩, .int .i64 0, .int .i64 0, .int .i64 0, .int .i64 0] (rowR ⟨q0, q1, q2, q3, q4, q5, q6⟩)) := ⟨rowR_rc hRc⟩
      have t0 := cell_below (z1 0 _ rfl) hB
      have t1 := cell_below (z1 1 _ rfl) hB
      have t2 := cell_below (z1 2 _ rfl) hB
      have t3 := cell_below (z1 3 _ rfl) hB
      have t4 := cell_below (z1 4 _ rfl) hB
      have t5 := cell_below (z1 5 _ rfl) hB
      have t6 := cell_below (z1 6 _ rfl) hB
      simp only [Nat.add_zero] at t0
      have HX : Hd (∃ F, OwS 13 86 (OwOn RcRec w) ((wr.alloc (.cells #[Value.string q0, .int .i64 q1, .slice x12 x13 x14, .int .i64 q3, .slice x22 x23 x24, .int .i64 q5, .bool q6] 84)).alloc (.cells #[Value.int .i64 1, .string q0, .int .i64 q1, .slice x12 x13 x14, .int .i64 q3, .slice x22 x23 x24, .int .i64 q5, .bool q6, .string ⟨#[]⟩, .int .i64 0, .int .i64 0, .int .i64 0, .int .i64 0] 86)) [.slice y n cc] F (phaseR l1 :: (l0.take k).map rowR) ∧ (∀ x, F x → w.heap.size + 1 ≤ x) ∧ Below w.heap.size w ((wr.alloc (.cells #[Value.string q0, .int .i64 q1, .slice x12 x13 x14, .int .i64 q3, .slice x22 x23 x24, .int .i64 q5, .bool q6] 84)).alloc (.cells #[Value.int .i64 1, .string q0, .int .i64 q1, .slice x12 x13 x14, .int .i64 q3, .slice x22 x23 x24, .int .i64 q5, .bool q6, .string ⟨#[]⟩, .int .i64 0, .int .i64 0, .int .i64 0, .int .i64 0] 86)) ∧ ((wr.alloc (.cells #[Value.string q0, .int .i64 q1, .slice x12 x13 x14, .int .i64 q3, .slice x22 x23 x24, .int .i64 q5, .bool q6] 84)).alloc (.cells #[Value.int .i64 1, .string q0, .int .i64 q1, .slice x12 x13 x14, .int .i64 q3, .slice x22 x23 x24, .int .i64 q5, .bool q6, .string ⟨#[]⟩, .int .i64 0, .int .i64 0, .int .i64 0, .int .i64 0] 86)).heap[w.heap.size]? = some (.cells #[Value.slice (some ⟨b1, o1, none⟩) m0 d0, Value.int IntKind.i64 l1, Value.slice x2 m2 d2] 43 (0, 0))) := ⟨F, (owS_ok (owOn_ok rcRec_ok w)).below ((owS_ok (owOn_ok rcRec_ok w)).below hO (below_lit _ _)) (below_lit _ _), hF, Below.next (Below.next hB (below_lit _ _)) (below_lit _ _), ((below_lit _ _).block _ (by simp; have := block_lt hX; omega)).trans (((below_lit _ _).block _ (block_lt hX)).trans hX)⟩
      clear hO hF hB HK ha z1 hX hRc
      obtain ⟨F, HX1⟩ : ∃ F, Hd (OwS 13 86 (OwOn RcRec w) ((wr.alloc (.cells #[Value.string q0, .int .i64 q1, .slice x12 x13 x14, .int .i64 q3, .slice x22 x23 x24, .int .i64 q5, .bool q6] 84)).alloc (.cells #[Value.int .i64 1, .string q0, .int .i64 q1, .slice x12 x13 x14, .int .i64 q3, .slice x22 x23 x24, .int .i64 q5, .bool q6, .string ⟨#[]⟩, .int .i64 0, .int .i64 0, .int .i64 0, .int .i64 0] 86)) [.slice y n cc] F (phaseR l1 :: (l0.take k).map rowR) ∧ (∀ x, F x → w.heap.size + 1 ≤ x) ∧ Below w.heap.size w ((wr.alloc (.cells #[Value.string q0, .int .i64 q1, .slice x12 x13 x14, .int .i64 q3, .slice x22 x23 x24, .int .i64 q5, .bool q6] 84)).alloc (.cells #[Value.int .i64 1, .string q0, .int .i64 q1, .slice x12 x13 x14, .int .i64 q3, .slice x22 x23 x24, .int .i64 q5, .bool q6, .string ⟨#[]⟩, .int .i64 0, .int .i64 0, .int .i64 0, .int .i64 0] 86)) ∧ ((wr.alloc (.cells #[Value.string q0, .int .i64 q1, .slice x12 x13 x14, .int .i64 q3, .slice x22 x23 x24, .int .i64 q5, .bool q6] 84)).alloc (.cells #[Value.int .i64 1, .string q0, .int .i64 q1, .slice x12 x13 x14, .int .i64 q3, .slice x22 x23 x24, .int .i64 q5, .bool q6, .string ⟨#[]⟩, .int .i64 0, .int .i64 0, .int .i64 0, .int .i64 0] 86)).heap[w.heap.size]? = some (.cells #[Value.slice (some ⟨b1, o1, none⟩) m0 d0, Value.int IntKind.i64 l1, Value.slice x2 m2 d2] 43 (0, 0))) := by obtain ⟨F, h⟩ := HX.out; exact ⟨F, ⟨h⟩⟩
      clear HX
      go_wp2_with (at_builtin; refine wpList_push rfl (owOn_ok rcRec_ok w) (.tmp 19) (.tmp 22) 38 rfl Try.underlying38 hi1 hz1 hs1 hb1 rfl (by omega) (v := .slice y n cc) rfl HX1.out.1 (q := wr.heap.size + 1) (c' := [.int .i64 1, .string q0, .int .i64 q1, .slice x12 x13 x14, .int .i64 q3, .slice x22 x23 x24, .int .i64 q5, .bool q6, .string ⟨#[]⟩, .int .i64 0, .int .i64 0, .int .i64 0, .int .i64 0]) (a' := rowR (⟨q0, q1, q2, q3, q4, q5, q6⟩ : RowD)) (G := fun _ => False) rfl (alloc_new (wr.alloc (.cells #[Value.string q0, .int .i64 q1, .slice x12 x13 x14, .int .i64 q3, .slice x22 x23 x24, .int .i64 q5, .bool q6] 84)) _ (by simp)) rfl (by intro u hu; simp only [List.mem_cons, List.not_mem_nil, or_false] at hu; rcases hu with rfl | rfl | rfl | rfl | rfl | rfl | rfl | rfl | rfl | rfl | rfl | rfl | rfl <;> rfl) ⟨fun _ h => h, HEW.out⟩ (fun _ h => h.elim) (by have := HLN.out; unfold maxLen; omega) (by have := HLN.out; omega) ?_)
      intro v' wz F' hOw hF' hgrow
      obtain ⟨x5, n5, d5, hv'⟩ : ∃ x2 n2 d2, v' = .slice x2 n2 d2 := by
        obtain ⟨x2, d2, e, _⟩ := owS_slice hOw
        exact ⟨x2, _, d2, e⟩
      subst hv'
      have HNX : Hd (∃ F, OwS 13 86 (OwOn RcRec w) wz [.slice x5 n5 d5] F (phaseR l1 :: (l0.take (k + 1)).map rowR) ∧ (∀ x, F x → w.heap.size + 1 ≤ x) ∧ Below w.heap.size w wz ∧ wz.heap[w.heap.size]? = some (.cells #[Value.slice (some ⟨b1, o1, none⟩) m0 d0, Value.int IntKind.i64 l1, Value.slice x2 m2 d2] 43 (0, 0))) := ⟨F', by
        rw [HS.out]
        have h7 := grown_on HX1.out.1 HX1.out.2.1 HX1.out.2.2.1 (by omega) hOw hF' (by have := block_lt HX1.out.2.2.2; simp only [World.size_alloc] at this; omega) hgrow (by omega) HX1.out.2.2.2
        simp only [List.map_take, List.cons_append] at h7 ⊢
        exact h7⟩
      clear hOw hF' hgrow HX1 HS HEW HLN t0 t1 t2 t3 t4 t5 t6
      go_wp2_with fail
      go_roundw
      case rel => exact ⟨k + 1, by omega, by go_num, x5, n5, d5, rfl, HNX⟩
      case measure => simp [intOf]; omega
    · have HK2 : Hd (∃ F, OwS 13 86 (OwOn RcRec w) wr [.slice y n cc] F (phaseR l1 :: (l0.map rowR ++ (l2.take 0).map markR)) ∧ (∀ x, F x → w.heap.size + 1 ≤ x) ∧ Below w.heap.size w wr ∧ wr.heap[w.heap.size]? = some (.cells #[Value.slice x0 m0 d0, Value.int IntKind.i64 l1, Value.slice x2 m2 d2] 43 (0, 0))) := ⟨by
        have h7 := HK.out
        rw [List.take_of_length_le (by have := HN.out; omega)] at h7
        simpa using h7⟩
      have c2 := cellsA (HK.out.choose_spec.2.2.2) 2 rfl
      clear HK
      go_wp2_with fail
      clear c2
      obtain ⟨W1, hW1⟩ : ∃ W, W = wr := ⟨_, rfl⟩
      subst hW1
      have H0 := HK2
      clear HK2
      go_loopw [28, 3] (fun i v wr => ∃ k : Nat, k ≤ m2 ∧ i = .int .i64 k ∧ ∃ y n cc, v = .slice y n cc ∧ Hd (∃ F, OwS 13 86 (OwOn RcRec w) wr [.slice y n cc] F (phaseR l1 :: (l0.map rowR ++ (l2.take k).map markR)) ∧ (∀ x, F x → w.heap.size + 1 ≤ x) ∧ Below w.heap.size w wr ∧ wr.heap[w.heap.size]? = some (.cells #[Value.slice x0 m0 d0, Value.int IntKind.i64 l1, Value.slice x2 m2 d2] 43 (0, 0)))) (fun i _ _ => m2 - (intOf i).toNat)
      case atStart => exact ⟨0, Nat.zero_le _, rfl, _, _, _, rfl, H0⟩
      case round =>
        obtain ⟨k, hk, rfl, y, n, cc, rfl, HK⟩ := hrel
        clear H0
        by_cases hlt : k < m2
        · have hlt' : (k : Int) < (m2 : Int) := by omega
          have h0 : (0 : Int) ≤ (k : Int) := by omega
          obtain ⟨a, ha⟩ := get_some (l := l2) (j := k) (by rw [HN.out.2.1]; exact hlt)
          obtain ⟨b1, o1, c1, e1, _, r1, z1⟩ := rdS_get HL.2 ha
          subst e1
          have HS : Hd (phaseR l1 :: (l0.map rowR ++ (l2.take (k + 1)).map markR) = (phaseR l1 :: (l0.map rowR ++ (l2.take k).map markR)) ++ [markR a]) := ⟨by rw [List.take_add_one, ha]; simp⟩
          have HLN : Hd ((phaseR l1 :: (l0.map rowR ++ (l2.take k).map markR)).length ≤ 3221225473) := ⟨by have := HN.out; simp; omega⟩
          obtain ⟨F, hO, hF, hB, hX⟩ := HK.out
          obtain ⟨q0, q1, q2⟩ := a
          simp only [RcMark] at r1
          subst r1
          have HEW : Hd (RcRec w [.int .i64 4, .string ⟨#[]⟩, .int .i64 0, .slice none 0 0, .int .i64 0, .slice none 0 0, .int .i64 0, .bool false, .string ⟨#[]⟩, .int .i64 0, .int .i64 q0, .int .i64 q1, .int .i64 q2] (markR ⟨q0, q1, q2⟩)) := ⟨markR_rc w _ _ _⟩
          have t0 := cell_below (z1 0 _ rfl) hB
          have t1 := cell_below (z1 1 _ rfl) hB
          have t2 := cell_below (z1 2 _ rfl) hB
          simp only [Nat.add_zero] at t0
          have HX : Hd (∃ F, OwS 13 86 (OwOn RcRec w) ((wr.alloc (.cells #[Value.int .i64 q0, .int .i64 q1, .int .i64 q2] 89)).alloc (.cells #[Value.int .i64 4, .string ⟨#[]⟩, .int .i64 0, .slice none 0 0, .int .i64 0, .slice none 0 0, .int .i64 0, .bool false, .string ⟨#[]⟩, .int .i64 0, .int .i64 q0, .int .i64 q1, .int .i64 q2] 86)) [.slice y n cc] F (phaseR l1 :: (l0.map rowR ++ (l2.take k).map markR)) ∧ (∀ x, F x → w.heap.size + 1 ≤ x) ∧ Below w.heap.size w ((wr.alloc (.cells #[Value.int .i64 q0, .int .i64 q1, .int .i64 q2] 89)).alloc (.cells #[Value.int .i64 4, .string ⟨#[]⟩, .int .i64 0, .slice none 0 0, .int .i64 0, .slice none 0 0, .int .i64 0, .bool false, .string ⟨#[]⟩, .int .i64 0, .int .i64 q0, .int .i64 q1, .int .i64 q2] 86)) ∧ ((wr.alloc (.cells #[Value.int .i64 q0, .int .i64 q1, .int .i64 q2] 89)).alloc (.cells #[Value.int .i64 4, .string ⟨#[]⟩, .int .i64 0, .slice none 0 0, .int .i64 0, .slice none 0 0, .int .i64 0, .bool false, .string ⟨#[]⟩, .int .i64 0, .int .i64 q0, .int .i64 q1, .int .i64 q2] 86)).heap[w.heap.size]? = some (.cells #[Value.slice x0 m0 d0, Value.int IntKind.i64 l1, Value.slice (some ⟨b1, o1, none⟩) m2 d2] 43 (0, 0))) := ⟨F, (owS_ok (owOn_ok rcRec_ok w)).below ((owS_ok (owOn_ok rcRec_ok w)).below hO (below_lit _ _)) (below_lit _ _), hF, Below.next (Below.next hB (below_lit _ _)) (below_lit _ _), ((below_lit _ _).block _ (by simp; have := block_lt hX; omega)).trans (((below_lit _ _).block _ (block_lt hX)).trans hX)⟩
          clear hO hF hB HK ha z1 hX
          obtain ⟨F, HX1⟩ : ∃ F, Hd (OwS 13 86 (OwOn RcRec w) ((wr.alloc (.cells #[Value.int .i64 q0, .int .i64 q1, .int .i64 q2] 89)).alloc (.cells #[Value.int .i64 4, .string ⟨#[]⟩, .int .i64 0, .slice none 0 0, .int .i64 0, .slice none 0 0, .int .i64 0, .bool false, .string ⟨#[]⟩, .int .i64 0, .int .i64 q0, .int .i64 q1, .int .i64 q2] 86)) [.slice y n cc] F (phaseR l1 :: (l0.map rowR ++ (l2.take k).map markR)) ∧ (∀ x, F x → w.heap.size + 1 ≤ x) ∧ Below w.heap.size w ((wr.alloc (.cells #[Value.int .i64 q0, .int .i64 q1, .int .i64 q2] 89)).alloc (.cells #[Value.int .i64 4, .string ⟨#[]⟩, .int .i64 0, .slice none 0 0, .int .i64 0, .slice none 0 0, .int .i64 0, .bool false, .string ⟨#[]⟩, .int .i64 0, .int .i64 q0, .int .i64 q1, .int .i64 q2] 86)) ∧ ((wr.alloc (.cells #[Value.int .i64 q0, .int .i64 q1, .int .i64 q2] 89)).alloc (.cells #[Value.int .i64 4, .string ⟨#[]⟩, .int .i64 0, .slice none 0 0, .int .i64 0, .slice none 0 0, .int .i64 0, .bool false, .string ⟨#[]⟩, .int .i64 0, .int .i64 q0, .int .i64 q1, .int .i64 q2] 86)).heap[w.heap.size]? = some (.cells #[Value.slice x0 m0 d0, Value.int IntKind.i64 l1, Value.slice (some ⟨b1, o1, none⟩) m2 d2] 43 (0, 0))) := by obtain ⟨F, h⟩ := HX.out; exact ⟨F, ⟨h⟩⟩
          clear HX
          go_wp2_with (at_builtin; refine wpList_push rfl (owOn_ok rcRec_ok w) (.tmp 32) (.tmp 40) 38 rfl Try.underlying38 hi1 hz1 hs1 hb1 rfl (by omega) (v := .slice y n cc) rfl HX1.out.1 (q := wr.heap.size + 1) (c' := [.int .i64 4, .string ⟨#[]⟩, .int .i64 0, .slice none 0 0, .int .i64 0, .slice none 0 0, .int .i64 0, .bool false, .string ⟨#[]⟩, .int .i64 0, .int .i64 q0, .int .i64 q1, .int .i64 q2]) (a' := markR (⟨q0, q1, q2⟩ : MarkD)) (G := fun _ => False) rfl (alloc_new (wr.alloc (.cells #[Value.int .i64 q0, .int .i64 q1, .int .i64 q2] 89)) _ (by simp)) rfl (by intro u hu; simp only [List.mem_cons, List.not_mem_nil, or_false] at hu; rcases hu with rfl | rfl | rfl | rfl | rfl | rfl | rfl | rfl | rfl | rfl | rfl | rfl | rfl <;> rfl) ⟨fun _ h => h, HEW.out⟩ (fun _ h => h.elim) (by have := HLN.out; unfold maxLen; omega) (by have := HLN.out; omega) ?_)
          intro v' wz F' hOw hF' hgrow
          obtain ⟨x5, n5, d5, hv'⟩ : ∃ x2 n2 d2, v' = .slice x2 n2 d2 := by
            obtain ⟨x2, d2, e, _⟩ := owS_slice hOw
            exact ⟨x2, _, d2, e⟩
          subst hv'
          have HNX : Hd (∃ F, OwS 13 86 (OwOn RcRec w) wz [.slice x5 n5 d5] F (phaseR l1 :: (l0.map rowR ++ (l2.take (k + 1)).map markR)) ∧ (∀ x, F x → w.heap.size + 1 ≤ x) ∧ Below w.heap.size w wz ∧ wz.heap[w.heap.size]? = some (.cells #[Value.slice x0 m0 d0, Value.int IntKind.i64 l1, Value.slice (some ⟨b1, o1, none⟩) m2 d2] 43 (0, 0))) := ⟨F', by
            rw [HS.out]
            have h7 := grown_on HX1.out.1 HX1.out.2.1 HX1.out.2.2.1 (by omega) hOw hF' (by have := block_lt HX1.out.2.2.2; simp only [World.size_alloc] at this; omega) hgrow (by omega) HX1.out.2.2.2
            simp only [List.map_take, List.cons_append, List.append_assoc] at h7 ⊢
            exact h7⟩
          clear hOw hF' hgrow HX1 HS HEW HLN t0 t1 t2
          go_wp2_with fail
          go_roundw
          case rel => exact ⟨k + 1, by omega, by go_num, x5, n5, d5, rfl, HNX⟩
          case measure => simp [intOf]; omega
        · have HZ : Hd (RcRecL wr [.slice y n cc] (partsL ⟨l0, l1, l2⟩) ∧ Below w.heap.size w wr) := ⟨by
            obtain ⟨F, hO, hF, hB, hX⟩ := HK.out
            rw [List.take_of_length_le (by have := HN.out; omega)] at hO
            exact ⟨rdOn_to rcRec_ok hB (owS_rd (owOn_ok rcRec_ok w) hO), hB⟩⟩
          clear HK
          go_wp2_with fail
          go_ret
          exact ⟨⟨_, _, _, rfl, HZ.out.1⟩, HZ.out.2⟩

end Go.Proofs.Ytlididoalekeoaa
/- The laws' copy of a Rec. -/
namespace Go.Proofs.Ytlididoalekeoaa
set_option maxRecDepth 4000
open Go.RowKit

end Go.Proofs.Ytlididoalekeoaa
/- What the laws do with a list of Rec. -/
namespace Go.Proofs.Ytlididoalekeoaa
set_option maxRecDepth 4000
open Go.RowKit

theorem owRec_zero (w : World) : OwRec w [.int .i64 0, .string ⟨#[]⟩, .int .i64 0, .slice none 0 0, .int .i64 0, .slice none 0 0, .int .i64 0, .bool false, .string ⟨#[]⟩, .int .i64 0, .int .i64 0, .int .i64 0, .int .i64 0] (fun _ => False) (⟨0, (⟨⟨#[]⟩, 0, [], 0, [], 0, false⟩ : RowD), ⟨#[]⟩, 0, 0, 0, 0⟩ : RecD) := ⟨none, 0, 0, none, 0, 0, (fun _ => False), rfl, Nat.zero_le _, ⟨none, 0, 0, none, 0, 0, (fun _ => False), (fun _ => False), rfl, Nat.zero_le _, ⟨none, 0, 0, (fun _ => False), rfl, owC_zero _, fun x => by simp⟩, ⟨none, 0, 0, (fun _ => False), rfl, owC_zero _, fun x => by simp⟩, fun _ h => False.elim h, fun x => by simp⟩, fun x => by simp⟩
abbrev RdRecS : Rd (List RecD) := RdS 13 RdRec
abbrev RcRecS : Rd (List RecD) := RdS 13 RcRec
abbrev OwRecS : Ow (List RecD) := OwS 13 86 OwRec
theorem rdRecS_ok : RdOk 1 RdRecS := rdS_ok rdRec_ok
theorem rcRecS_ok : RdOk 1 RcRecS := rdS_ok rcRec_ok
theorem owRecS_ok : OwOk 1 OwRecS RcRecS := owS_ok owRec_ok
theorem rcRecS_w {w : World} {cs : List Value} {a : List RecD} (h : RcRecS w cs a) : RdRecS w cs a := rdS_mono (fun h => rcRec_w h) h
abbrev wtRecS : List RecD → Nat := wtS wtRec

theorem rdRecS_parts {w : World} {ao : Option Addr} {len cap : Nat} {ls : List RecD} (h : RdRecS w [.slice ao len cap] ls) : len ≤ maxLen ∧ ls.length = len ∧ (ls = [] ∨ ∃ b off, ao = some ⟨b, off, none⟩ ∧ ∀ j a, ls[j]? = some a → ∃ c, c.length = 13 ∧ RdRec w c a ∧ ∀ i v, c[i]? = some v → w.cell? ⟨b, off + j * 13 + i, none⟩ = some v) := by
  obtain ⟨_, _, _, e, hm, hl, h⟩ := h
  simp only [List.cons.injEq, Value.slice.injEq, and_true] at e
  obtain ⟨rfl, rfl, rfl⟩ := e
  exact ⟨hm, hl, h⟩

set_option maxHeartbeats 4000000 in
theorem eqRecS_rd (a1 : Option Addr) (n1 c1 : Nat) (a2 : Option Addr) (n2 c2 : Nat) (ls : List RecD) (w : World) (h1 : RdRecS w [.slice a1 n1 c1] ls) (h2 : RdRecS w [.slice a2 n2 c2] ls) (hw : wtRecS ls ≤ 1073741824) :
    Calls Try.prog 24 #[.slice a1 n1 c1, .slice a2 n2 c2] w fun e w' => e = .returned (.bool true) ∧ Below w.heap.size w w' := by
  replace h1 := rdRecS_parts h1
  replace h2 := rdRecS_parts h2
  obtain ⟨_, hl1, h1⟩ := h1
  obtain ⟨_, hl2, h2⟩ := h2
  obtain rfl : n1 = n2 := hl1.symm.trans hl2
  have hw7 : wtS wtRec ls ≤ 1073741824 := hw
  have hlen : n1 ≤ 1073741824 := by have := wtS_len wtRec ls; omega
  have heq : ((n1 : Int) != (n1 : Int)) = false := by simp
  by_cases hz : n1 = 0
  · subst hz
    clear h1 h2 hl1 hl2 hw hw7
    go_enter Try.func24, Try.ntmps24
    go_wp2_with fail
    refine wp_loop_rounds 1 ?_
    rewrite [rounds_succ]
    go_wp2_with fail
    go_ret
    exact ⟨rfl, Below.refl _ w⟩
  rcases h1 with h | ⟨b1, o1, rfl, g1⟩
  · exact absurd (by rw [← hl1, h, List.length_nil]) hz
  rcases h2 with h | ⟨b2, o2, rfl, g2⟩
  · exact absurd (by rw [← hl1, h, List.length_nil]) hz
  have G1 : Hd (∀ j a, ls[j]? = some a → ∃ c, c.length = 13 ∧ RdRec w c a ∧ ∀ i v, c[i]? = some v → w.cell? ⟨b1, o1 + j * 13 + i, none⟩ = some v) := ⟨g1⟩
  have G2 : Hd (∀ j a, ls[j]? = some a → ∃ c, c.length = 13 ∧ RdRec w c a ∧ ∀ i v, c[i]? = some v → w.cell? ⟨b2, o2 + j * 13 + i, none⟩ = some v) := ⟨g2⟩
  have HN : Hd (ls.length = n1 ∧ wtRecS ls ≤ 1073741824) := ⟨hl1, hw⟩
  clear g1 g2 hl1 hl2 hw hw7 hz
  go_enter Try.func24, Try.ntmps24
  go_wp2_with fail
  go_loopw [5] (fun i wr => ∃ k : Nat, k ≤ n1 ∧ i = .int .i64 k ∧ Hd (Below w.heap.size w wr)) (fun i _ => n1 - (intOf i).toNat)
  case atStart => exact ⟨0, Nat.zero_le _, rfl, ⟨Below.refl _ _⟩⟩
  case round =>
    obtain ⟨k, hk, rfl, HB⟩ := hrel
    by_cases hlt : k < n1
    · have hlt' : (k : Int) < (n1 : Int) := by omega
      have h0 : (0 : Int) ≤ (k : Int) := by omega
      obtain ⟨a, ha⟩ := get_some (l := ls) (j := k) (by rw [HN.out.1]; exact hlt)
      obtain ⟨c, hcn, hR, hcell⟩ := G1.out k a ha
      obtain ⟨c', hcn', hR', hcell'⟩ := G2.out k a ha
      have HW : Hd (wtRec a ≤ 1073741824) := ⟨by have h7 := wtS_le wtRec ha; have h8 : wtS wtRec ls ≤ 1073741824 := HN.out.2; omega⟩
      replace hR := rdRec_ok.below hR HB.out
      replace hR' := rdRec_ok.below hR' HB.out
      obtain ⟨l0, ⟨l1, l2, l3, l4, l5, l6, l7⟩, l8, l9, l10, l11, l12⟩ := a
      have hR0 := hR
      simp only [RdRec] at hR0
      obtain ⟨x3, m3, d3, x5, m5, d5, rfl, _, _⟩ := hR0
      have t0 := cell_below (hcell 0 _ rfl) HB.out
      have t1 := cell_below (hcell 1 _ rfl) HB.out
      have t2 := cell_below (hcell 2 _ rfl) HB.out
      have t3 := cell_below (hcell 3 _ rfl) HB.out
      have t4 := cell_below (hcell 4 _ rfl) HB.out
      have t5 := cell_below (hcell 5 _ rfl) HB.out
      have t6 := cell_below (hcell 6 _ rfl) HB.out
      have t7 := cell_below (hcell 7 _ rfl) HB.out
      have t8 := cell_below (hcell 8 _ rfl) HB.out
      have t9 := cell_below (hcell 9 _ rfl) HB.out
      have t10 := cell_below (hcell 10 _ rfl) HB.out
      have t11 := cell_below (hcell 11 _ rfl) HB.out
      have t12 := cell_below (hcell 12 _ rfl) HB.out
      simp only [Nat.add_zero] at t0
      have hR0 := hR'
      simp only [RdRec] at hR0
      obtain ⟨y3, n3, e3, y5, n5, e5, rfl, _, _⟩ := hR0
      have u0 := cell_below (hcell' 0 _ rfl) HB.out
      have u1 := cell_below (hcell' 1 _ rfl) HB.out
      have u2 := cell_below (hcell' 2 _ rfl) HB.out
      have u3 := cell_below (hcell' 3 _ rfl) HB.out
      have u4 := cell_below (hcell' 4 _ rfl) HB.out
      have u5 := cell_below (hcell' 5 _ rfl) HB.out
      have u6 := cell_below (hcell' 6 _ rfl) HB.out
      have u7 := cell_below (hcell' 7 _ rfl) HB.out
      have u8 := cell_below (hcell' 8 _ rfl) HB.out
      have u9 := cell_below (hcell' 9 _ rfl) HB.out
      have u10 := cell_below (hcell' 10 _ rfl) HB.out
      have u11 := cell_below (hcell' 11 _ rfl) HB.out
      have u12 := cell_below (hcell' 12 _ rfl) HB.out
      simp only [Nat.add_zero] at u0
      have Q : Hd (RdRec wr [.int .i64 l0, .string l1, .int .i64 l2, .slice x3 m3 d3, .int .i64 l4, .slice x5 m5 d5, .int .i64 l6, .bool l7, .string l8, .int .i64 l9, .int .i64 l10, .int .i64 l11, .int .i64 l12] (⟨l0, (⟨l1, l2, l3, l4, l5, l6, l7⟩ : RowD), l8, l9, l10, l11, l12⟩ : RecD) ∧ RdRec wr [.int .i64 l0, .string l1, .int .i64 l2, .slice y3 n3 e3, .int .i64 l4, .slice y5 n5 e5, .int .i64 l6, .bool l7, .string l8, .int .i64 l9, .int .i64 l10, .int .i64 l11, .int .i64 l12] (⟨l0, (⟨l1, l2, l3, l4, l5, l6, l7⟩ : RowD), l8, l9, l10, l11, l12⟩ : RecD) ∧ wtRec (⟨l0, (⟨l1, l2, l3, l4, l5, l6, l7⟩ : RowD), l8, l9, l10, l11, l12⟩ : RecD) ≤ 1073741824) := ⟨hR, hR', HW.out⟩
      clear hR hR' hcell hcell' hcn hcn' ha HW
      go_wp2_with fail
      have KK : Hd (∀ w', Below wr.heap.size wr w' → (w'.cell? ⟨b1, o1 + k * 13, none⟩ = some (.int .i64 l0) ∧ w'.cell? ⟨b1, o1 + k * 13 + 1, none⟩ = some (.string l1) ∧ w'.cell? ⟨b1, o1 + k * 13 + 2, none⟩ = some (.int .i64 l2) ∧ w'.cell? ⟨b1, o1 + k * 13 + 3, none⟩ = some (.slice x3 m3 d3) ∧ w'.cell? ⟨b1, o1 + k * 13 + 4, none⟩ = some (.int .i64 l4) ∧ w'.cell? ⟨b1, o1 + k * 13 + 5, none⟩ = some (.slice x5 m5 d5) ∧ w'.cell? ⟨b1, o1 + k * 13 + 6, none⟩ = some (.int .i64 l6) ∧ w'.cell? ⟨b1, o1 + k * 13 + 7, none⟩ = some (.bool l7) ∧ w'.cell? ⟨b1, o1 + k * 13 + 8, none⟩ = some (.string l8) ∧ w'.cell? ⟨b1, o1 + k * 13 + 9, none⟩ = some (.int .i64 l9) ∧ w'.cell? ⟨b1, o1 + k * 13 + 10, none⟩ = some (.int .i64 l10) ∧ w'.cell? ⟨b1, o1 + k * 13 + 11, none⟩ = some (.int .i64 l11) ∧ w'.cell? ⟨b1, o1 + k * 13 + 12, none⟩ = some (.int .i64 l12) ∧ w'.cell? ⟨b2, o2 + k * 13, none⟩ = some (.int .i64 l0) ∧ w'.cell? ⟨b2, o2 + k * 13 + 1, none⟩ = some (.string l1) ∧ w'.cell? ⟨b2, o2 + k * 13 + 2, none⟩ = some (.int .i64 l2) ∧ w'.cell? ⟨b2, o2 + k * 13 + 3, none⟩ = some (.slice y3 n3 e3) ∧ w'.cell? ⟨b2, o2 + k * 13 + 4, none⟩ = some (.int .i64 l4) ∧ w'.cell? ⟨b2, o2 + k * 13 + 5, none⟩ = some (.slice y5 n5 e5) ∧ w'.cell? ⟨b2, o2 + k * 13 + 6, none⟩ = some (.int .i64 l6) ∧ w'.cell? ⟨b2, o2 + k * 13 + 7, none⟩ = some (.bool l7) ∧ w'.cell? ⟨b2, o2 + k * 13 + 8, none⟩ = some (.string l8) ∧ w'.cell? ⟨b2, o2 + k * 13 + 9, none⟩ = some (.int .i64 l9) ∧ w'.cell? ⟨b2, o2 + k * 13 + 10, none⟩ = some (.int .i64 l10) ∧ w'.cell? ⟨b2, o2 + k * 13 + 11, none⟩ = some (.int .i64 l11) ∧ w'.cell? ⟨b2, o2 + k * 13 + 12, none⟩ = some (.int .i64 l12))) := ⟨fun w' hb => ⟨cell_below t0 hb, cell_below t1 hb, cell_below t2 hb, cell_below t3 hb, cell_below t4 hb, cell_below t5 hb, cell_below t6 hb, cell_below t7 hb, cell_below t8 hb, cell_below t9 hb, cell_below t10 hb, cell_below t11 hb, cell_below t12 hb, cell_below u0 hb, cell_below u1 hb, cell_below u2 hb, cell_below u3 hb, cell_below u4 hb, cell_below u5 hb, cell_below u6 hb, cell_below u7 hb, cell_below u8 hb, cell_below u9 hb, cell_below u10 hb, cell_below u11 hb, cell_below u12 hb⟩⟩
      have D0 : Hd (Below wr.heap.size wr wr.drew) := ⟨(Below.refl _ wr).drew⟩
      go_region_held (fun w' => w'.cell? ⟨b1, o1 + k * 13, none⟩ = some (.int .i64 l0) ∧ w'.cell? ⟨b1, o1 + k * 13 + 1, none⟩ = some (.string l1) ∧ w'.cell? ⟨b1, o1 + k * 13 + 2, none⟩ = some (.int .i64 l2) ∧ w'.cell? ⟨b1, o1 + k * 13 + 3, none⟩ = some (.slice x3 m3 d3) ∧ w'.cell? ⟨b1, o1 + k * 13 + 4, none⟩ = some (.int .i64 l4) ∧ w'.cell? ⟨b1, o1 + k * 13 + 5, none⟩ = some (.slice x5 m5 d5) ∧ w'.cell? ⟨b1, o1 + k * 13 + 6, none⟩ = some (.int .i64 l6) ∧ w'.cell? ⟨b1, o1 + k * 13 + 7, none⟩ = some (.bool l7) ∧ w'.cell? ⟨b1, o1 + k * 13 + 8, none⟩ = some (.string l8) ∧ w'.cell? ⟨b1, o1 + k * 13 + 9, none⟩ = some (.int .i64 l9) ∧ w'.cell? ⟨b1, o1 + k * 13 + 10, none⟩ = some (.int .i64 l10) ∧ w'.cell? ⟨b1, o1 + k * 13 + 11, none⟩ = some (.int .i64 l11) ∧ w'.cell? ⟨b1, o1 + k * 13 + 12, none⟩ = some (.int .i64 l12) ∧ w'.cell? ⟨b2, o2 + k * 13, none⟩ = some (.int .i64 l0) ∧ w'.cell? ⟨b2, o2 + k * 13 + 1, none⟩ = some (.string l1) ∧ w'.cell? ⟨b2, o2 + k * 13 + 2, none⟩ = some (.int .i64 l2) ∧ w'.cell? ⟨b2, o2 + k * 13 + 3, none⟩ = some (.slice y3 n3 e3) ∧ w'.cell? ⟨b2, o2 + k * 13 + 4, none⟩ = some (.int .i64 l4) ∧ w'.cell? ⟨b2, o2 + k * 13 + 5, none⟩ = some (.slice y5 n5 e5) ∧ w'.cell? ⟨b2, o2 + k * 13 + 6, none⟩ = some (.int .i64 l6) ∧ w'.cell? ⟨b2, o2 + k * 13 + 7, none⟩ = some (.bool l7) ∧ w'.cell? ⟨b2, o2 + k * 13 + 8, none⟩ = some (.string l8) ∧ w'.cell? ⟨b2, o2 + k * 13 + 9, none⟩ = some (.int .i64 l9) ∧ w'.cell? ⟨b2, o2 + k * 13 + 10, none⟩ = some (.int .i64 l10) ∧ w'.cell? ⟨b2, o2 + k * 13 + 11, none⟩ = some (.int .i64 l11) ∧ w'.cell? ⟨b2, o2 + k * 13 + 12, none⟩ = some (.int .i64 l12)) (first | (with_reducible exact KK.out _ D1.out) | (with_reducible exact KK.out _ D0.out))
        (first | (go_at_call 71; refine (eqRec_rd [.int .i64 l0, .string l1, .int .i64 l2, .slice x3 m3 d3, .int .i64 l4, .slice x5 m5 d5, .int .i64 l6, .bool l7, .string l8, .int .i64 l9, .int .i64 l10, .int .i64 l11, .int .i64 l12] [.int .i64 l0, .string l1, .int .i64 l2, .slice y3 n3 e3, .int .i64 l4, .slice y5 n5 e5, .int .i64 l6, .bool l7, .string l8, .int .i64 l9, .int .i64 l10, .int .i64 l11, .int .i64 l12] (⟨l0, (⟨l1, l2, l3, l4, l5, l6, l7⟩ : RowD), l8, l9, l10, l11, l12⟩ : RecD) _ (rdRec_ok.below Q.out.1 D0.out) (rdRec_ok.below Q.out.2.1 D0.out) Q.out.2.2).mono ?_; rintro e wv ⟨rfl, hB⟩; have D1 : Hd (Below wr.heap.size wr wv) := ⟨Below.next D0.out hB⟩; clear hB))
      have HZ : Hd (Below w.heap.size w wv) := ⟨Below.next HB.out D1.out⟩
      clear KK D0 D1 Q HB t0 u0 t1 u1 t2 u2 t3 u3 t4 u4 t5 u5 t6 u6 t7 u7 t8 u8 t9 u9 t10 u10 t11 u11 t12 u12
      go_wp2_with fail
      go_roundw
      case rel => exact ⟨k + 1, by omega, by go_num, HZ⟩
      case measure => simp [intOf]; omega
    · go_wp2
      go_ret
      exact ⟨rfl, HB.out⟩

theorem infSRecS : (Try.prog.info? 86).map (fun i => (i.zero, i.size, i.bytes)) = some (some (.agg #[.int .i64 0, .string ⟨#[]⟩, .int .i64 0, .slice none 0 0, .int .i64 0, .slice none 0 0, .int .i64 0, .bool false, .string ⟨#[]⟩, .int .i64 0, .int .i64 0, .int .i64 0, .int .i64 0]), 13, 152) := by kernel_rfl

end Go.Proofs.Ytlididoalekeoaa
