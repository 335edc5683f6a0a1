/- Contract: TabOk of the program. -/
import Derived.Test.YtlididoalekeoaaGreatDoorRecN
import Derived.Test.YtlididoalekeoaaGreatDoorAscM
namespace Go.Proofs.YtlididoalekeoaaGreatDoor
set_option maxRecDepth 4000
open Go.RowKit

theorem wtS_atI {α : Type} (f : α → Nat) {ls : List α} {k : Nat} {a : α} (h : ls[k]? = some a) : f a ≤ wtS f ls := by have := wtS_le f h; omega
theorem parts_wt {t : TabD} {B : Nat} (hw : wtTab t ≤ B) : ∀ (j : Nat) r, (partsL t)[j]? = some r → wtRec r ≤ B := by
  intro j r h
  have h1 := List.mem_of_getElem? h
  unfold partsL at h1
  rw [List.mem_cons, List.mem_append] at h1
  rcases h1 with rfl | h1 | h1
  · have h0 : wtRec (phaseR t.phase) = 0 := rfl
    omega
  · obtain ⟨a, ha, rfl⟩ := List.mem_map.1 h1
    obtain ⟨k, hk⟩ := List.mem_iff_getElem?.1 ha
    have h2 := wtS_atI wtRow hk
    have h3 : wtRec (rowR a) = wtRow a := rfl
    have h4 : wtTab t = wtS wtRow t.rows + wtS wtMark t.marks := rfl
    omega
  · obtain ⟨a, ha, rfl⟩ := List.mem_map.1 h1
    have h0 : wtRec (markR a) = 0 := rfl
    omega

set_option maxHeartbeats 4000000 in
theorem implTabOk_rd (cs : List Value) (a : TabD) (w : World) (h : RcTab w cs a) (hw : wtTab a ≤ 1048576) (T : Hd (AllAt w)) :
    Calls Tryz.prog 17 #[.agg cs.toArray] w fun e w' => e = .returned (.bool (tabOk a)) ∧ Below w.heap.size w w' := by
  obtain ⟨r, hr⟩ : ∃ r, tabOk a = r := ⟨_, rfl⟩
  have HQ : Hd (RcTab w cs a ∧ wtTab a ≤ 1048576) := ⟨h, hw⟩
  rw [hr]
  obtain ⟨l0, l1, l2⟩ := a
  simp only [RcTab] at h
  obtain ⟨x0, m0, d0, x2, m2, d2, rfl, r1, r2⟩ := h
  obtain ⟨k1, hk1⟩ : ∃ k, ascB ltRow l0 = k := ⟨_, rfl⟩
  obtain ⟨k2, hk2⟩ : ∃ k, ascB ltMark l2 = k := ⟨_, rfl⟩
  obtain ⟨k3, hk3⟩ : ∃ k, (partsL ⟨l0, l1, l2⟩).all recOk = k := ⟨_, rfl⟩
  have HK : Hd (ascB ltRow l0 = k1 ∧ ascB ltMark l2 = k2 ∧ (partsL ⟨l0, l1, l2⟩).all recOk = k3) := ⟨hk1, hk2, hk3⟩
  have hm : m0 ≤ 1048576 ∧ m2 ≤ 1048576 := by
    have h1 := wtS_len wtRow l0; have h2 := wtS_len wtMark l2; have h3 := (rdS_len r1).1; have h4 := (rdS_len r2).1
    have h5 : wtTab ⟨l0, l1, l2⟩ = wtS wtRow l0 + wtS wtMark l2 := rfl
    omega
  have HR : Hd (r = (decide (m0 ≤ 8) && k1 && k2 && k3)) := ⟨by
    rw [← hr, ← hk1, ← hk2, ← hk3, parts_ok, ← (rdS_len r1).1]
    unfold tabOk
    dsimp only
    cases decide (l0.length ≤ 8) <;> cases ascB ltRow l0 <;> cases ascB ltMark l2 <;> cases l0.all rOk <;> cases l2.all markOk <;> cases inB l1 0 7 <;> rfl⟩
  have HL : Hd (RcRowS w [.slice x0 m0 d0] l0 ∧ RcMarkS w [.slice x2 m2 d2] l2) := ⟨r1, r2⟩
  clear hw hr r1 r2 hk1 hk2 hk3
  obtain ⟨hm0, hm2⟩ := hm
  by_cases h8 : m0 ≤ 8
  rotate_left
  · have h9 : (8 : Int) < (m0 : Int) := by omega
    have HF : Hd (r = false) := ⟨by rw [HR.out, decide_eq_false h8]; rfl⟩
    clear HR
    go_enter Tryz.func17, Tryz.ntmps17
    go_wp2_with fail
    go_ret
    exact ⟨by rw [HF.out]; rfl, below_lit w _⟩
  have h9 : ¬ (8 : Int) < (m0 : Int) := by omega
  have HE : Hd (r = (k1 && k2 && k3)) := ⟨by rw [HR.out, decide_eq_true h8]; rfl⟩
  clear HR
  go_enter Tryz.func17, Tryz.ntmps17
  go_wp2_with fail
  refine (ascRow_any x0 m0 d0 l0 _ (rdRowS_ok.below (rcRowS_w HL.out.1) (below_lit w _)) (by omega)).mono ?_
  rintro e w1 ⟨rfl, hb⟩
  have KA : Hd (w1.heap[w.heap.size]? = some (.cells #[Value.slice x0 m0 d0, .int .i64 l1, .slice x2 m2 d2] 40 (0, 0))) := ⟨(hb.block _ (by simp)).trans (heap_alloc_new w _)⟩
  have B1 : Hd (Below w.heap.size w w1) := ⟨Below.next (below_lit w _) hb⟩
  rewrite [HK.out.1]
  have c2 := cellsA KA.out 2 rfl
  clear hb
  cases k1
  · go_wp2_with fail
    go_ret
    exact ⟨by rw [HE.out]; rfl, B1.out⟩
  go_wp2_with fail
  clear c2
  refine (ascMark_any x2 m2 d2 l2 _ (rdMarkS_ok.below (rcMarkS_w HL.out.2) B1.out) (by omega)).mono ?_
  rintro e w2 ⟨rfl, hb⟩
  have KA2 : Hd (w2.heap[w.heap.size]? = some (.cells #[Value.slice x0 m0 d0, .int .i64 l1, .slice x2 m2 d2] 40 (0, 0))) := ⟨(hb.block _ (block_lt KA.out)).trans KA.out⟩
  have B2 : Hd (Below w.heap.size w w2) := ⟨Below.next B1.out hb⟩
  rewrite [HK.out.2.1]
  clear hb KA B1
  have c0 := cellsA KA2.out 0 rfl
  have c1 := cellsA KA2.out 1 rfl
  have c2 := cellsA KA2.out 2 rfl
  cases k2
  · go_wp2_with fail
    go_ret
    exact ⟨by rw [HE.out]; rfl, B2.out⟩
  go_wp2_with fail
  clear c0 c1 c2 KA2
  refine (partsOf_rd _ ⟨l0, l1, l2⟩ _ (rcTab_ok.below HQ.out.1 B2.out) (by have := HQ.out.2; omega)).mono ?_
  rintro e w3 ⟨⟨ya, yn, yc, rfl, hP⟩, hb⟩
  have HP : Hd (RcRecL w3 [.slice ya yn yc] (partsL ⟨l0, l1, l2⟩)) := ⟨hP⟩
  have B3 : Hd (Below w.heap.size w w3) := ⟨Below.next B2.out hb⟩
  clear hP hb B2
  go_wp2_with fail
  refine (containsRec_any ya yn yc (partsL ⟨l0, l1, l2⟩) _ HP.out (parts_wt HQ.out.2) ⟨T.out.below B3.out⟩).mono ?_
  rintro e w4 ⟨rfl, hb⟩
  rewrite [HK.out.2.2]
  have B4 : Hd (Below w.heap.size w w4) := ⟨Below.next B3.out hb⟩
  clear hb B3 HP
  go_wp2_with fail
  go_ret
  exact ⟨by rw [HE.out]; cases k3 <;> rfl, B4.out⟩

end Go.Proofs.YtlididoalekeoaaGreatDoor
