/- Parts of the proof, one behind the other. -/
import Derived.Test.YtlididoalekeoaaMxRecsOf12
import Derived.Deep.RegionHeldLaw
import Derived.Test.YtlididoalekeoaaMxRecsOf9
import Derived.Test.YtlididoalekeoaaMxRecsOf5
/- RecsOf of the specification. -/
namespace Go.Proofs.Ytlididoalekeoaa
set_option maxRecDepth 4000
open Go.RowKit

/-- What a loop that appends elements of its own carries. -/
theorem grown_new {α : Type} {n : Nat} {T : TypeId} {E : Ow α} {w X Y : World} {v v' : Value} {L N : Nat} {F F' G : Fp} {ls ls' : List α} (hO : OwS n T E X [v] F ls) (hF : ∀ x, F x → L ≤ x) (hB : Below w.heap.size w X) (hL : w.heap.size ≤ L)
    (hOw : OwS n T E Y [v'] F' ls') (hF' : ∀ x, F' x → F x ∨ G x ∨ N ≤ x) (hG : ∀ x, G x → L ≤ x) (hX : L ≤ N) (hgrow : X.grownBy Y v.ownBlock) {q : Nat} {o : Obj} (hq : q < L) (hbox : X.heap[q]? = some o) :
    OwS n T E Y [v'] F' ls' ∧ (∀ x, F' x → L ≤ x) ∧ Below w.heap.size w Y ∧ Y.heap[q]? = some o := by
  have hown : ∀ b, v.ownBlock = some b → L ≤ b := fun b hb => by
    obtain ⟨x3, d3, rfl, hcase⟩ := owS_slice hO
    rcases hcase with ⟨rfl, _⟩ | ⟨g, rfl, h2⟩
    · cases hb
    · simp [Value.ownBlock] at hb; rw [← hb]; exact hF g h2
  refine ⟨hOw, fun x hx => ?_, hB.grown hgrow hB.size (fun b hb => Nat.le_trans hL (hown b hb)), ?_⟩
  · rcases hF' x hx with h | h | h
    · exact hF x h
    · exact hG x h
    · omega
  · rw [hgrow.block q (block_lt hbox) (fun e => by have := hown q e.symm; omega)]; exact hbox

set_option maxHeartbeats 8000000 in
theorem specRecsOf_ow (cs : List Value) (a : TabD) (w : World) (h : RcTab w cs a) (hw : wtTab a ≤ 1048576) :
    Calls Try.prog 21 #[.agg cs.toArray] w (AnsSl OwRecS (partsL a) w) := by
  obtain ⟨l0, l1, l2⟩ := a
  simp only [RcTab] at h
  obtain ⟨x0, m0, d0, x2, m2, d2, rfl, r1, r2⟩ := h
  unfold wtTab at hw
  dsimp only at hw
  have HL : (RcRowS w [.slice x0 m0 d0] l0 ∧ RcMarkS w [.slice x2 m2 d2] l2) := ⟨r1, r2⟩
  have HN : Hd (l0.length = m0 ∧ l2.length = m2 ∧ m0 ≤ 1048576 ∧ m2 ≤ 1048576 ∧ wtS wtRow l0 ≤ 1048576) := ⟨(rdS_len r1).1, (rdS_len r2).1, by
    have h1 := wtS_len wtRow l0; have h2 : wtRowS l0 = wtS wtRow l0 := rfl; have := (rdS_len r1).1; omega, by
    have h1 := wtS_len wtMark l2; have h2 : wtMarkS l2 = wtS wtMark l2 := rfl; have := (rdS_len r2).1; omega, by have h2 : wtRowS l0 = wtS wtRow l0 := rfl; omega⟩
  have hm0 : m0 ≤ 1048576 := HN.out.2.2.1
  have hm2 : m2 ≤ 1048576 := HN.out.2.2.2.1
  clear r1 r2 hw
  obtain ⟨i1, hi1, hz1, hs1, hb1⟩ := info_parts infoRecE
  obtain ⟨k1, k2⟩ := laid2 w (.cells #[Value.slice x0 m0 d0, Value.int IntKind.i64 l1, Value.slice x2 m2 d2] 43) (.cells #[Value.int .i64 3, .string ⟨#[]⟩, .int .i64 0, .slice none 0 0, .int .i64 0, .slice none 0 0, .int .i64 0, .bool false, .string ⟨#[]⟩, .int .i64 l1, .int .i64 0, .int .i64 0, .int .i64 0] 86)
  have H0 : Hd (∃ F, OwS 13 86 OwRec ((w.alloc (.cells #[Value.slice x0 m0 d0, Value.int IntKind.i64 l1, Value.slice x2 m2 d2] 43)).alloc (.cells #[Value.int .i64 3, .string ⟨#[]⟩, .int .i64 0, .slice none 0 0, .int .i64 0, .slice none 0 0, .int .i64 0, .bool false, .string ⟨#[]⟩, .int .i64 l1, .int .i64 0, .int .i64 0, .int .i64 0] 86)) [.slice (some ⟨w.heap.size + 1, 0, none⟩) 1 1] F (phaseR l1 :: (l0.take 0).map rowR) ∧ (∀ x, F x → w.heap.size + 1 ≤ x) ∧ Below w.heap.size w ((w.alloc (.cells #[Value.slice x0 m0 d0, Value.int IntKind.i64 l1, Value.slice x2 m2 d2] 43)).alloc (.cells #[Value.int .i64 3, .string ⟨#[]⟩, .int .i64 0, .slice none 0 0, .int .i64 0, .slice none 0 0, .int .i64 0, .bool false, .string ⟨#[]⟩, .int .i64 l1, .int .i64 0, .int .i64 0, .int .i64 0] 86)) ∧ ((w.alloc (.cells #[Value.slice x0 m0 d0, Value.int IntKind.i64 l1, Value.slice x2 m2 d2] 43)).alloc (.cells #[Value.int .i64 3, .string ⟨#[]⟩, .int .i64 0, .slice none 0 0, .int .i64 0, .slice none 0 0, .int .i64 0, .bool false, .string ⟨#[]⟩, .int .i64 l1, .int .i64 0, .int .i64 0, .int .i64 0] 86)).heap[w.heap.size]? = some (.cells #[Value.slice x0 m0 d0, Value.int IntKind.i64 l1, Value.slice x2 m2 d2] 43 (0, 0))) := ⟨fun x => x = w.heap.size + 1, owS_one9 (c := [.int .i64 3, .string ⟨#[]⟩, .int .i64 0, .slice none 0 0, .int .i64 0, .slice none 0 0, .int .i64 0, .bool false, .string ⟨#[]⟩, .int .i64 l1, .int .i64 0, .int .i64 0, .int .i64 0]) k2 rfl (phaseR_ow _ l1), fun x hx => by omega, below_lit2 w _ _, k1⟩
  have k0 := cellsA ((below_lit w (.cells #[Value.slice x0 m0 d0, Value.int IntKind.i64 l1, Value.slice x2 m2 d2] 43)).block w.heap.size |> fun _ => heap_alloc_new w (.cells #[Value.slice x0 m0 d0, Value.int IntKind.i64 l1, Value.slice x2 m2 d2] 43)) 1 rfl
  clear k1 k2
  go_enter Try.func21, Try.ntmps21
  go_wp2_with fail
  clear k0
  generalize ((w.alloc (.cells #[Value.slice x0 m0 d0, Value.int IntKind.i64 l1, Value.slice x2 m2 d2] 43)).alloc (.cells #[Value.int .i64 3, .string ⟨#[]⟩, .int .i64 0, .slice none 0 0, .int .i64 0, .slice none 0 0, .int .i64 0, .bool false, .string ⟨#[]⟩, .int .i64 l1, .int .i64 0, .int .i64 0, .int .i64 0] 86)) = W0 at *
  go_loopw [3, 4] (fun v i wr => ∃ k : Nat, k ≤ m0 ∧ i = .int .i64 k ∧ ∃ y n cc, v = .slice y n cc ∧ Hd (∃ F, OwS 13 86 OwRec wr [.slice y n cc] F (phaseR l1 :: (l0.take k).map rowR) ∧ (∀ x, F x → w.heap.size + 1 ≤ x) ∧ Below w.heap.size w wr ∧ wr.heap[w.heap.size]? = some (.cells #[Value.slice x0 m0 d0, Value.int IntKind.i64 l1, Value.slice x2 m2 d2] 43 (0, 0)))) (fun _ i _ => m0 - (intOf i).toNat)
  case atStart => exact ⟨0, Nat.zero_le _, rfl, _, _, _, rfl, H0⟩
  case round =>
    obtain ⟨k, hk, rfl, y, n, cc, rfl, HK⟩ := hrel
    clear H0
    have cA := cellsA (HK.out.choose_spec.2.2.2) 0 rfl
    by_cases hlt : k < m0
    · have hlt' : (k : Int) < (m0 : Int) := by omega
      have h0 : (0 : Int) ≤ (k : Int) := by omega
      obtain ⟨a, ha⟩ := get_some (l := l0) (j := k) (by rw [HN.out.1]; exact hlt)
      obtain ⟨b1, o1, c1, e1, _, r1, z1⟩ := rdS_get HL.1 ha
      subst e1
      have HS : Hd (phaseR l1 :: (l0.take (k + 1)).map rowR = (phaseR l1 :: (l0.take k).map rowR) ++ [rowR a]) := ⟨by rw [List.take_add_one, ha]; simp⟩
      have HLN : Hd ((phaseR l1 :: (l0.take k).map rowR).length ≤ 1048577) := ⟨by have := HN.out; simp; omega⟩
      have HWA : Hd (wtRow a ≤ 1048576) := ⟨by have h7 := wtS_le wtRow ha; have := HN.out.2.2.2.2; omega⟩
      obtain ⟨F, hO, hF, hB, hX⟩ := HK.out
      have HRC : Hd (RcRow wr c1 a) := ⟨rcRow_ok.below r1 hB⟩
      have HW : Hd (OwS 13 86 OwRec wr [.slice y n cc] F (phaseR l1 :: (l0.take k).map rowR) ∧ (∀ x, F x → w.heap.size + 1 ≤ x) ∧ Below w.heap.size w wr ∧ wr.heap[w.heap.size]? = some (.cells #[Value.slice (some ⟨b1, o1, none⟩) m0 d0, Value.int IntKind.i64 l1, Value.slice x2 m2 d2] 43 (0, 0))) := ⟨hO, hF, hB, hX⟩
      obtain ⟨q0, q1, q2, q3, q4, q5, q6⟩ := a
      simp only [RcRow] at r1
      obtain ⟨x12, x13, x14, x22, x23, x24, rfl, _⟩ := r1
      have t0 := cell_below (z1 0 _ rfl) hB
      have t1 := cell_below (z1 1 _ rfl) hB
      have t2 := cell_below (z1 2 _ rfl) hB
      have t3 := cell_below (z1 3 _ rfl) hB
      have t4 := cell_below (z1 4 _ rfl) hB
      have t5 := cell_below (z1 5 _ rfl) hB
      have t6 := cell_below (z1 6 _ rfl) hB
      simp only [Nat.add_zero] at t0
      clear hO hF hB hX HK ha z1
      go_wp2_with fail
      refine (specCopyRow_ow _ (⟨q0, q1, q2, q3, q4, q5, q6⟩ : RowD) _ HRC.out HWA.out).mono ?_
      rintro e w1 ⟨⟨cs1, rfl, G1, hE, hG⟩, hb⟩
      have hE0 := hE
      simp only [OwRow] at hE0
      obtain ⟨y1, n1, e1, y2, n2, e2, _, _, rfl, hz7⟩ := hE0
      have HX1 : Hd (OwS 13 86 OwRec (w1.alloc (.cells #[Value.int .i64 1, .string q0, .int .i64 q1, .slice y1 n1 e1, .int .i64 q3, .slice y2 n2 e2, .int .i64 q5, .bool q6, .string ⟨#[]⟩, .int .i64 0, .int .i64 0, .int .i64 0, .int .i64 0] 86)) [.slice y n cc] F (phaseR l1 :: (l0.take k).map rowR) ∧ (∀ x, F x → w.heap.size + 1 ≤ x) ∧ Below w.heap.size w (w1.alloc (.cells #[Value.int .i64 1, .string q0, .int .i64 q1, .slice y1 n1 e1, .int .i64 q3, .slice y2 n2 e2, .int .i64 q5, .bool q6, .string ⟨#[]⟩, .int .i64 0, .int .i64 0, .int .i64 0, .int .i64 0] 86)) ∧ (w1.alloc (.cells #[Value.int .i64 1, .string q0, .int .i64 q1, .slice y1 n1 e1, .int .i64 q3, .slice y2 n2 e2, .int .i64 q5, .bool q6, .string ⟨#[]⟩, .int .i64 0, .int .i64 0, .int .i64 0, .int .i64 0] 86)).heap[w.heap.size]? = some (.cells #[Value.slice (some ⟨b1, o1, none⟩) m0 d0, Value.int IntKind.i64 l1, Value.slice x2 m2 d2] 43 (0, 0)) ∧ OwRec (w1.alloc (.cells #[Value.int .i64 1, .string q0, .int .i64 q1, .slice y1 n1 e1, .int .i64 q3, .slice y2 n2 e2, .int .i64 q5, .bool q6, .string ⟨#[]⟩, .int .i64 0, .int .i64 0, .int .i64 0, .int .i64 0] 86)) [.int .i64 1, .string q0, .int .i64 q1, .slice y1 n1 e1, .int .i64 q3, .slice y2 n2 e2, .int .i64 q5, .bool q6, .string ⟨#[]⟩, .int .i64 0, .int .i64 0, .int .i64 0, .int .i64 0] G1 (rowR (⟨q0, q1, q2, q3, q4, q5, q6⟩ : RowD)) ∧ (∀ x, G1 x → w.heap.size + 1 ≤ x) ∧ (∀ x, G1 x → ¬ F x)) := ⟨by
        have hb2 : Below wr.heap.size wr (w1.alloc (.cells #[Value.int .i64 1, .string q0, .int .i64 q1, .slice y1 n1 e1, .int .i64 q3, .slice y2 n2 e2, .int .i64 q5, .bool q6, .string ⟨#[]⟩, .int .i64 0, .int .i64 0, .int .i64 0, .int .i64 0] 86)) := Below.next hb (below_lit _ _)
        exact ⟨(owS_ok owRec_ok).below HW.out.1 hb2, HW.out.2.1, Below.next HW.out.2.2.1 hb2, (hb2.block _ (block_lt HW.out.2.2.2)).trans HW.out.2.2.2, owRec_ok.below (rowR_ow hE) (below_lit _ _), fun x hx => by have := hG x hx; have := block_lt HW.out.2.2.2; omega, fun x hx hy => by have := hG x hx; have := (owS_ok owRec_ok).lt HW.out.1 x hy; omega⟩⟩
      have HQ1 : Hd ((w1.alloc (.cells #[Value.int .i64 1, .string q0, .int .i64 q1, .slice y1 n1 e1, .int .i64 q3, .slice y2 n2 e2, .int .i64 q5, .bool q6, .string ⟨#[]⟩, .int .i64 0, .int .i64 0, .int .i64 0, .int .i64 0] 86)).heap[w1.heap.size]? = some (.cells ([.int .i64 1, .string q0, .int .i64 q1, .slice y1 n1 e1, .int .i64 q3, .slice y2 n2 e2, .int .i64 q5, .bool q6, .string ⟨#[]⟩, .int .i64 0, .int .i64 0, .int .i64 0, .int .i64 0] : List Value).toArray 86 (0, 0))) := ⟨heap_alloc_new w1 _⟩
      have HN1 : Hd (w.heap.size + 1 ≤ w1.heap.size + 1) := ⟨by have := block_lt HX1.out.2.2.2.1; simp only [World.size_alloc] at this; omega⟩
      clear hE hG hb hz7 HW HRC HWA t0 t1 t2 t3 t4 t5 t6 cA
      go_wp2_with (at_builtin; refine wpList_push rfl owRec_ok (.tmp 17) (.tmp 25) 38 rfl Try.underlying38 hi1 hz1 hs1 hb1 rfl (by omega) (v := .slice y n cc) rfl HX1.out.1 (q := w1.heap.size) (c' := [.int .i64 1, .string q0, .int .i64 q1, .slice y1 n1 e1, .int .i64 q3, .slice y2 n2 e2, .int .i64 q5, .bool q6, .string ⟨#[]⟩, .int .i64 0, .int .i64 0, .int .i64 0, .int .i64 0]) (a' := rowR (⟨q0, q1, q2, q3, q4, q5, q6⟩ : RowD)) (G := G1) rfl HQ1.out rfl (by intro u hu; simp only [List.mem_cons, List.not_mem_nil, or_false] at hu; rcases hu with rfl | rfl | rfl | rfl | rfl | rfl | rfl | rfl | rfl | rfl | rfl | rfl | rfl <;> rfl) HX1.out.2.2.2.2.1 HX1.out.2.2.2.2.2.2 (by have := HLN.out; unfold maxLen; omega) (by have := HLN.out; omega) ?_)
      intro v' wz F' hOw hF' hgrow
      obtain ⟨x5, n5, d5, hv'⟩ : ∃ x2 n2 d2, v' = .slice x2 n2 d2 := by
        obtain ⟨x2, d2, e, _⟩ := owS_slice hOw
        exact ⟨x2, _, d2, e⟩
      subst hv'
      have HNX : Hd (∃ F, OwS 13 86 OwRec wz [.slice x5 n5 d5] F (phaseR l1 :: (l0.take (k + 1)).map rowR) ∧ (∀ x, F x → w.heap.size + 1 ≤ x) ∧ Below w.heap.size w wz ∧ wz.heap[w.heap.size]? = some (.cells #[Value.slice (some ⟨b1, o1, none⟩) m0 d0, Value.int IntKind.i64 l1, Value.slice x2 m2 d2] 43 (0, 0))) := ⟨F', by
        rw [HS.out]
        have h7 := grown_new HX1.out.1 HX1.out.2.1 HX1.out.2.2.1 (by omega) hOw hF' HX1.out.2.2.2.2.2.1 HN1.out hgrow (by omega) HX1.out.2.2.2.1
        simp only [List.map_take, List.cons_append] at h7 ⊢
        exact h7⟩
      clear hOw hF' hgrow HX1 HS HLN HQ1 HN1
      go_wp2_with fail
      go_roundw
      case rel => exact ⟨k + 1, by omega, by go_num, x5, n5, d5, rfl, HNX⟩
      case measure => simp [intOf]; omega
    · have hlt' : ¬ (k : Int) < (m0 : Int) := by omega
      have HK2 : Hd (∃ F, OwS 13 86 OwRec wr [.slice y n cc] F (phaseR l1 :: (l0.map rowR ++ (l2.take 0).map markR)) ∧ (∀ x, F x → w.heap.size + 1 ≤ x) ∧ Below w.heap.size w wr ∧ wr.heap[w.heap.size]? = some (.cells #[Value.slice x0 m0 d0, Value.int IntKind.i64 l1, Value.slice x2 m2 d2] 43 (0, 0))) := ⟨by
        have h7 := HK.out
        rw [List.take_of_length_le (by have := HN.out; omega)] at h7
        simpa using h7⟩
      clear HK
      go_wp2_with fail
      clear cA
      obtain ⟨W1, hW1⟩ : ∃ W, W = wr := ⟨_, rfl⟩
      subst hW1
      have H0 := HK2
      clear HK2
      go_loopw [3, 5] (fun v i wr => ∃ k : Nat, k ≤ m2 ∧ i = .int .i64 k ∧ ∃ y n cc, v = .slice y n cc ∧ Hd (∃ F, OwS 13 86 OwRec wr [.slice y n cc] F (phaseR l1 :: (l0.map rowR ++ (l2.take k).map markR)) ∧ (∀ x, F x → w.heap.size + 1 ≤ x) ∧ Below w.heap.size w wr ∧ wr.heap[w.heap.size]? = some (.cells #[Value.slice x0 m0 d0, Value.int IntKind.i64 l1, Value.slice x2 m2 d2] 43 (0, 0)))) (fun _ i _ => m2 - (intOf i).toNat)
      case atStart => exact ⟨0, Nat.zero_le _, rfl, _, _, _, rfl, H0⟩
      case round =>
        obtain ⟨k, hk, rfl, y, n, cc, rfl, HK⟩ := hrel
        clear H0
        have cA := cellsA (HK.out.choose_spec.2.2.2) 2 rfl
        by_cases hlt : k < m2
        · have hlt' : (k : Int) < (m2 : Int) := by omega
          have h0 : (0 : Int) ≤ (k : Int) := by omega
          obtain ⟨a, ha⟩ := get_some (l := l2) (j := k) (by rw [HN.out.2.1]; exact hlt)
          obtain ⟨b1, o1, c1, e1, _, r1, z1⟩ := rdS_get HL.2 ha
          subst e1
          have HS : Hd (phaseR l1 :: (l0.map rowR ++ (l2.take (k + 1)).map markR) = (phaseR l1 :: (l0.map rowR ++ (l2.take k).map markR)) ++ [markR a]) := ⟨by rw [List.take_add_one, ha]; simp⟩
          have HLN : Hd ((phaseR l1 :: (l0.map rowR ++ (l2.take k).map markR)).length ≤ 3145729) := ⟨by have := HN.out; simp; omega⟩
          obtain ⟨q0, q1, q2⟩ := a
          simp only [RcMark] at r1
          subst r1
          have HZ1 : Hd (w.cell? ⟨b1, o1 + k * 3, none⟩ = some (.int .i64 q0) ∧ w.cell? ⟨b1, o1 + k * 3 + 1, none⟩ = some (.int .i64 q1) ∧ w.cell? ⟨b1, o1 + k * 3 + 2, none⟩ = some (.int .i64 q2)) := ⟨z1 0 _ rfl, z1 1 _ rfl, z1 2 _ rfl⟩
          obtain ⟨F, hO, hF, hB, hX⟩ := HK.out
          have KA : Hd (∀ w', Below w.heap.size w w' → w'.heap[w.heap.size]? = some (.cells #[Value.slice x0 m0 d0, Value.int IntKind.i64 l1, Value.slice (some ⟨b1, o1, none⟩) m2 d2] 43 (0, 0)) → (w'.cell? ⟨w.heap.size, 2, none⟩ = some (.slice (some ⟨b1, o1, none⟩) m2 d2) ∧ w'.cell? ⟨b1, o1 + k * 3, none⟩ = some (.int .i64 q0) ∧ w'.cell? ⟨b1, o1 + k * 3 + 1, none⟩ = some (.int .i64 q1) ∧ w'.cell? ⟨b1, o1 + k * 3 + 2, none⟩ = some (.int .i64 q2))) := ⟨fun w' hb hx => ⟨cellsA hx 2 rfl, cell_below HZ1.out.1 hb, cell_below HZ1.out.2.1 hb, cell_below HZ1.out.2.2 hb⟩⟩
          have HX1 : Hd (OwS 13 86 OwRec ((wr.alloc (.cells #[Value.int .i64 4, .string ⟨#[]⟩, .int .i64 0, .slice none 0 0, .int .i64 0, .slice none 0 0, .int .i64 0, .bool false, .string ⟨#[]⟩, .int .i64 0, .int .i64 q0, .int .i64 q1, .int .i64 q2] 86)).drew) [.slice y n cc] F (phaseR l1 :: (l0.map rowR ++ (l2.take k).map markR)) ∧ (∀ x, F x → w.heap.size + 1 ≤ x) ∧ Below w.heap.size w ((wr.alloc (.cells #[Value.int .i64 4, .string ⟨#[]⟩, .int .i64 0, .slice none 0 0, .int .i64 0, .slice none 0 0, .int .i64 0, .bool false, .string ⟨#[]⟩, .int .i64 0, .int .i64 q0, .int .i64 q1, .int .i64 q2] 86)).drew) ∧ ((wr.alloc (.cells #[Value.int .i64 4, .string ⟨#[]⟩, .int .i64 0, .slice none 0 0, .int .i64 0, .slice none 0 0, .int .i64 0, .bool false, .string ⟨#[]⟩, .int .i64 0, .int .i64 q0, .int .i64 q1, .int .i64 q2] 86)).drew).heap[w.heap.size]? = some (.cells #[Value.slice x0 m0 d0, Value.int IntKind.i64 l1, Value.slice (some ⟨b1, o1, none⟩) m2 d2] 43 (0, 0)) ∧ OwRec ((wr.alloc (.cells #[Value.int .i64 4, .string ⟨#[]⟩, .int .i64 0, .slice none 0 0, .int .i64 0, .slice none 0 0, .int .i64 0, .bool false, .string ⟨#[]⟩, .int .i64 0, .int .i64 q0, .int .i64 q1, .int .i64 q2] 86)).drew) [.int .i64 4, .string ⟨#[]⟩, .int .i64 0, .slice none 0 0, .int .i64 0, .slice none 0 0, .int .i64 0, .bool false, .string ⟨#[]⟩, .int .i64 0, .int .i64 q0, .int .i64 q1, .int .i64 q2] (fun _ => False) (markR (⟨q0, q1, q2⟩ : MarkD)) ∧ (∀ x, False → w.heap.size + 1 ≤ x) ∧ (∀ x, (fun _ => False) x → ¬ F x)) := ⟨by
            have hb2 : Below wr.heap.size wr ((wr.alloc (.cells #[Value.int .i64 4, .string ⟨#[]⟩, .int .i64 0, .slice none 0 0, .int .i64 0, .slice none 0 0, .int .i64 0, .bool false, .string ⟨#[]⟩, .int .i64 0, .int .i64 q0, .int .i64 q1, .int .i64 q2] 86)).drew) := (below_lit _ _).drew
            exact ⟨(owS_ok owRec_ok).below hO hb2, hF, Below.next hB hb2, (hb2.block _ (block_lt hX)).trans hX, markR_ow _ _ _ _, fun _ h => h.elim, fun _ h => h.elim⟩⟩
          have HQ1 : Hd (((wr.alloc (.cells #[Value.int .i64 4, .string ⟨#[]⟩, .int .i64 0, .slice none 0 0, .int .i64 0, .slice none 0 0, .int .i64 0, .bool false, .string ⟨#[]⟩, .int .i64 0, .int .i64 q0, .int .i64 q1, .int .i64 q2] 86)).drew).heap[wr.heap.size]? = some (.cells ([.int .i64 4, .string ⟨#[]⟩, .int .i64 0, .slice none 0 0, .int .i64 0, .slice none 0 0, .int .i64 0, .bool false, .string ⟨#[]⟩, .int .i64 0, .int .i64 q0, .int .i64 q1, .int .i64 q2] : List Value).toArray 86 (0, 0))) := ⟨heap_alloc_new wr _⟩
          have HN1 : Hd (w.heap.size + 1 ≤ ((wr.alloc (.cells #[Value.int .i64 4, .string ⟨#[]⟩, .int .i64 0, .slice none 0 0, .int .i64 0, .slice none 0 0, .int .i64 0, .bool false, .string ⟨#[]⟩, .int .i64 0, .int .i64 q0, .int .i64 q1, .int .i64 q2] 86)).drew).heap.size) := ⟨by have := block_lt HX1.out.2.2.2.1; omega⟩
          have K0 : Hd (wr.cell? ⟨w.heap.size, 2, none⟩ = some (.slice (some ⟨b1, o1, none⟩) m2 d2) ∧ wr.cell? ⟨b1, o1 + k * 3, none⟩ = some (.int .i64 q0) ∧ wr.cell? ⟨b1, o1 + k * 3 + 1, none⟩ = some (.int .i64 q1) ∧ wr.cell? ⟨b1, o1 + k * 3 + 2, none⟩ = some (.int .i64 q2)) := ⟨KA.out _ hB hX⟩
          have KD : Hd (wr.drew.cell? ⟨w.heap.size, 2, none⟩ = some (.slice (some ⟨b1, o1, none⟩) m2 d2) ∧ wr.drew.cell? ⟨b1, o1 + k * 3, none⟩ = some (.int .i64 q0) ∧ wr.drew.cell? ⟨b1, o1 + k * 3 + 1, none⟩ = some (.int .i64 q1) ∧ wr.drew.cell? ⟨b1, o1 + k * 3 + 2, none⟩ = some (.int .i64 q2)) := ⟨KA.out _ hB.drew hX⟩
          have KV : Hd (((wr.alloc (.cells #[Value.int .i64 4, .string ⟨#[]⟩, .int .i64 0, .slice none 0 0, .int .i64 0, .slice none 0 0, .int .i64 0, .bool false, .string ⟨#[]⟩, .int .i64 0, .int .i64 q0, .int .i64 q1, .int .i64 q2] 86)).drew).cell? ⟨w.heap.size, 2, none⟩ = some (.slice (some ⟨b1, o1, none⟩) m2 d2) ∧ ((wr.alloc (.cells #[Value.int .i64 4, .string ⟨#[]⟩, .int .i64 0, .slice none 0 0, .int .i64 0, .slice none 0 0, .int .i64 0, .bool false, .string ⟨#[]⟩, .int .i64 0, .int .i64 q0, .int .i64 q1, .int .i64 q2] 86)).drew).cell? ⟨b1, o1 + k * 3, none⟩ = some (.int .i64 q0) ∧ ((wr.alloc (.cells #[Value.int .i64 4, .string ⟨#[]⟩, .int .i64 0, .slice none 0 0, .int .i64 0, .slice none 0 0, .int .i64 0, .bool false, .string ⟨#[]⟩, .int .i64 0, .int .i64 q0, .int .i64 q1, .int .i64 q2] 86)).drew).cell? ⟨b1, o1 + k * 3 + 1, none⟩ = some (.int .i64 q1) ∧ ((wr.alloc (.cells #[Value.int .i64 4, .string ⟨#[]⟩, .int .i64 0, .slice none 0 0, .int .i64 0, .slice none 0 0, .int .i64 0, .bool false, .string ⟨#[]⟩, .int .i64 0, .int .i64 q0, .int .i64 q1, .int .i64 q2] 86)).drew).cell? ⟨b1, o1 + k * 3 + 2, none⟩ = some (.int .i64 q2)) := ⟨KA.out _ HX1.out.2.2.1 HX1.out.2.2.2.1⟩
          have t0 := K0.out.2.1
          have t1 := K0.out.2.2.1
          have t2 := K0.out.2.2.2
          clear hO hF hB hX HK ha z1 HZ1
          go_wp2_with fail
          go_region_held_law (fun w' => w'.cell? ⟨w.heap.size, 2, none⟩ = some (.slice (some ⟨b1, o1, none⟩) m2 d2) ∧ w'.cell? ⟨b1, o1 + k * 3, none⟩ = some (.int .i64 q0) ∧ w'.cell? ⟨b1, o1 + k * 3 + 1, none⟩ = some (.int .i64 q1) ∧ w'.cell? ⟨b1, o1 + k * 3 + 2, none⟩ = some (.int .i64 q2)) (first | (with_reducible exact KD.out) | (with_reducible exact KV.out) | (with_reducible exact KZ.out) | (with_reducible exact K0.out))
            (first | (refine step_push rfl owRec_ok (.tmp 34) (.tmp 54) 38 rfl Try.underlying38 hi1 hz1 hs1 hb1 rfl (by omega) (v := .slice y n cc) rfl HX1.out.1 (q := wr.heap.size) (c' := [.int .i64 4, .string ⟨#[]⟩, .int .i64 0, .slice none 0 0, .int .i64 0, .slice none 0 0, .int .i64 0, .bool false, .string ⟨#[]⟩, .int .i64 0, .int .i64 q0, .int .i64 q1, .int .i64 q2]) (a' := markR (⟨q0, q1, q2⟩ : MarkD)) (G := fun _ => False) rfl HQ1.out rfl (by intro u hu; simp only [List.mem_cons, List.not_mem_nil, or_false] at hu; rcases hu with rfl | rfl | rfl | rfl | rfl | rfl | rfl | rfl | rfl | rfl | rfl | rfl | rfl <;> rfl) HX1.out.2.2.2.2.1 HX1.out.2.2.2.2.2.2 (by have := HLN.out; unfold maxLen; omega) (by have := HLN.out; omega) ?_; intro v' wz hpush hgrow; obtain ⟨F', hOw, hF'⟩ := hpush; obtain ⟨x5, d5, hv', _⟩ := owS_slice hOw; obtain ⟨n5, hn5⟩ : ∃ n, ((phaseR l1 :: (l0.map rowR ++ (l2.take k).map markR)) ++ [markR (⟨q0, q1, q2⟩ : MarkD)]).length = n := ⟨_, rfl⟩; rw [hn5] at hv'; subst hv'; clear hn5; have HNX : Hd (OwS 13 86 OwRec wz [.slice x5 n5 d5] F' ((phaseR l1 :: (l0.map rowR ++ (l2.take k).map markR)) ++ [markR (⟨q0, q1, q2⟩ : MarkD)]) ∧ (∀ x, F' x → w.heap.size + 1 ≤ x) ∧ Below w.heap.size w wz ∧ wz.heap[w.heap.size]? = some (.cells #[Value.slice x0 m0 d0, Value.int IntKind.i64 l1, Value.slice (some ⟨b1, o1, none⟩) m2 d2] 43 (0, 0))) := (⟨grown_new HX1.out.1 HX1.out.2.1 HX1.out.2.2.1 (by omega) hOw (fun x hx => (hF' x hx)) HX1.out.2.2.2.2.2.1 HN1.out hgrow (by omega) HX1.out.2.2.2.1⟩); have KZ : Hd (wz.cell? ⟨w.heap.size, 2, none⟩ = some (.slice (some ⟨b1, o1, none⟩) m2 d2) ∧ wz.cell? ⟨b1, o1 + k * 3, none⟩ = some (.int .i64 q0) ∧ wz.cell? ⟨b1, o1 + k * 3 + 1, none⟩ = some (.int .i64 q1) ∧ wz.cell? ⟨b1, o1 + k * 3 + 2, none⟩ = some (.int .i64 q2)) := (⟨KA.out _ HNX.out.2.2.1 HNX.out.2.2.2⟩); clear hOw hF' hgrow))
          all_goals
            have HNY : Hd (∃ F, OwS 13 86 OwRec wz [.slice x5 n5 d5] F (phaseR l1 :: (l0.map rowR ++ (l2.take (k + 1)).map markR)) ∧ (∀ x, F x → w.heap.size + 1 ≤ x) ∧ Below w.heap.size w wz ∧ wz.heap[w.heap.size]? = some (.cells #[Value.slice x0 m0 d0, Value.int IntKind.i64 l1, Value.slice (some ⟨b1, o1, none⟩) m2 d2] 43 (0, 0))) := ⟨F', by
              rw [HS.out]
              exact HNX.out⟩
            clear HNX HX1 HS HLN HQ1 HN1 KA K0 KD KV KZ t0 t1 t2 cA
            go_wp2_with fail
            go_roundw
            case rel => exact ⟨k + 1, by omega, by go_num, x5, n5, d5, rfl, HNY⟩
            case measure => simp [intOf]; omega
        · have hlt' : ¬ (k : Int) < (m2 : Int) := by omega
          have HZ : Hd (AnsSl OwRecS (partsL ⟨l0, l1, l2⟩) w (.returned (.slice y n cc)) wr) := ⟨by
            obtain ⟨F, hO, hF, hB, hX⟩ := HK.out
            rw [List.take_of_length_le (by have := HN.out; omega)] at hO
            exact ⟨⟨_, _, _, rfl, F, hO, fun x hx => by have := hF x hx; omega⟩, hB⟩⟩
          clear HK
          go_wp2_with fail
          go_ret
          exact HZ.out

end Go.Proofs.Ytlididoalekeoaa
/- The text that the laws mark with. -/
namespace Go.Proofs.Ytlididoalekeoaa
set_option maxRecDepth 4000
open Go.RowKit

/-- A number's digits ahead of a text. -/
def digB (k : Nat) : UInt8 := UInt8.ofNat (48 + k % 10)
def markL : Nat → Nat → ByteArray → ByteArray
  | 0, _, out => out
  | f + 1, k, out => if k = 0 then out else markL f (k / 10) (strB [digB k] ++ out)
def markT (m : Nat) : ByteArray := if m = 0 then ⟨#[109, 48]⟩ else ⟨#[109]⟩ ++ markL m m ⟨#[]⟩
theorem markL_stop (f : Nat) (out : ByteArray) : markL f 0 out = out := by cases f <;> rfl
theorem markL_step {f k : Nat} (hk : 0 < k) (hf : k ≤ f) (out : ByteArray) : markL f k out = markL (f - 1) (k / 10) (strB [digB k] ++ out) := by
  obtain ⟨g, rfl⟩ : ∃ g, f = g + 1 := ⟨f - 1, by omega⟩
  rw [markL, if_neg (by omega)]; rfl
theorem markL_size : ∀ (f k : Nat) (out : ByteArray), k ≤ f → (markL f k out).size ≤ out.size + k
  | 0, _, out, _ => by show out.size ≤ _; omega
  | f + 1, k, out, h => by
    rw [markL]
    split
    · omega
    · have h1 := markL_size f (k / 10) (strB [digB k] ++ out) (by omega)
      have e : (strB [digB k] ++ out).size = 1 + out.size := by rw [ByteArray.size_append]; rfl
      omega
theorem markT_size {m : Nat} (h : m ≤ 1073741824) : (markT m).size ≤ maxLen := by
  have hx : (1073741825 : Nat) ≤ maxLen := by unfold maxLen; omega
  refine Nat.le_trans ?_ hx
  unfold markT
  split
  · show (2 : Nat) ≤ _; omega
  · have h1 := markL_size m m ⟨#[]⟩ (Nat.le_refl _)
    have e : ((⟨#[109]⟩ : ByteArray) ++ markL m m ⟨#[]⟩).size = 1 + (markL m m ⟨#[]⟩).size := by rw [ByteArray.size_append]; rfl
    have e0 : (⟨#[]⟩ : ByteArray).size = 0 := rfl
    omega
theorem digB_val (k : Nat) : ((digB k).toNat : Int) = 48 + (k : Int) % 10 := by
  unfold digB
  rw [UInt8.toNat_ofNat']
  omega
theorem one_byte (w : World) (x : UInt8) (c : Nat) : (convert 22 9 (.slice (some ⟨w.heap.size, 0, none⟩) 1 c)).run Try.prog (w.alloc (.cells #[.int .u8 (x.toNat : Int)] 5)) = .ok (.string (strB [x])) (w.alloc (.cells #[.int .u8 (x.toNat : Int)] 5)) := by
  have := run_convert_bytes_back (P := Try.prog) (w.alloc (.cells #[.int .u8 (x.toNat : Int)] 5)) 22 9 5 ⟨w.heap.size, 0, none⟩ c [x] Try.underlying22 Try.underlying5 Try.underlying9 (fun j hj => by
    rcases j with _ | j
    · exact cellsA (heap_alloc_new w _) 0 rfl
    · simp at hj)
  exact this

set_option maxHeartbeats 2000000 in
theorem markText_any (m : Nat) (w : World) (hm : 0 < m) (hb : m ≤ 1073741824) :
    Calls Try.prog 76 #[.int .i64 (m : Int)] w fun e w' => e = .returned (.string (markT m)) ∧ Below w.heap.size w w' := by
  have h1 : ¬ (m : Int) ≤ 0 := by omega
  obtain ⟨R, hR⟩ : ∃ R, markL m m ⟨#[]⟩ = R := ⟨_, rfl⟩
  have HR : Hd (markT m = ⟨#[109]⟩ ++ R) := ⟨by unfold markT; rw [if_neg (by omega), hR]⟩
  rw [HR.out]
  have H0 : Hd (markL m m ⟨#[]⟩ = R ∧ m + (⟨#[]⟩ : ByteArray).size ≤ m) := ⟨hR, Nat.le_refl _⟩
  clear hR HR
  go_enter Try.func76, Try.ntmps76
  go_wp2_with fail
  go_loopw [0, 3] (fun i v wr => ∃ (k f : Nat) (out : ByteArray), i = .int .i64 (k : Int) ∧ v = .string out ∧ k ≤ m ∧ Hd (k ≤ f ∧ markL f k out = R ∧ k + out.size ≤ m) ∧ Hd (Below w.heap.size w wr)) (fun i _ _ => (intOf i).toNat)
  case atStart => exact ⟨m, m, ⟨#[]⟩, rfl, rfl, Nat.le_refl _, ⟨Nat.le_refl _, H0.out.1, H0.out.2⟩, ⟨Below.refl _ _⟩⟩
  case round =>
    obtain ⟨k, f, out, rfl, rfl, hkm, HK, HB⟩ := hrel
    clear H0
    by_cases hk : 0 < k
    · have hk0 : (0 : Int) < (k : Int) := by omega
      have hcv := one_byte wr (digB k) 1
      rw [digB_val] at hcv
      have HW : Hd (Below w.heap.size w (wr.alloc (.cells #[.int .u8 (48 + (k : Int) % 10)] 5))) := ⟨Below.next HB.out (below_lit _ _)⟩
      have HN : Hd (k / 10 ≤ f - 1 ∧ markL (f - 1) (k / 10) (strB [digB k] ++ out) = R ∧ k / 10 + (strB [digB k] ++ out).size ≤ m) := ⟨by
        obtain ⟨a, b, c⟩ := HK.out
        have e : (strB [digB k] ++ out).size = 1 + out.size := by rw [ByteArray.size_append]; rfl
        exact ⟨by omega, by rw [← b]; exact (markL_step hk a out).symm, by omega⟩⟩
      have hs1 : (strB [digB k]).size = 1 := rfl
      have hs2 : out.size ≤ 1073741824 := by have := HK.out.2.2; omega
      go_wp2_with fail
      go_roundw
      case rel => exact ⟨k / 10, f - 1, strB [digB k] ++ out, by go_num, rfl, by omega, HN, HW⟩
      case measure => simp [intOf]; omega
    · have hk0 : ¬ (0 : Int) < (k : Int) := by omega
      have hs2 : out.size ≤ 1073741824 := by have := HK.out.2.2; omega
      have HF : Hd (out = R) := ⟨by have := HK.out.2.1; rw [show k = 0 by omega, markL_stop] at this; exact this⟩
      clear HK
      go_wp2_with fail
      go_ret
      exact ⟨by rw [HF.out]; rfl, HB.out⟩

end Go.Proofs.Ytlididoalekeoaa
