/- Parts of the proof, one behind the other. -/
import Derived.Test.YtlididoalekeoaaGreatDoorMxStoreOk23
import Derived.Test.YtlididoalekeoaaGreatDoorMxStoreOk24
import Derived.Test.YtlididoalekeoaaGreatDoorMxStoreOk17
/- Parts of the proof, one behind the other. -/
/- StoreOk of the specification. -/
namespace Go.Proofs.YtlididoalekeoaaGreatDoor
set_option maxRecDepth 4000
open Go.RowKit

set_option maxHeartbeats 8000000 in
theorem specStoreOk_rd (cs : List Value) (a : StoreD) (w : World) (h : RcStore w cs a) (hw : wtStore a ≤ 1048576) :
    Calls Tryz.prog 5 #[.agg cs.toArray] w fun e w' => e = .returned (.bool (storeOk a)) ∧ Below w.heap.size w w' := by
  obtain ⟨r, hr⟩ : ∃ r, storeOk a = r := ⟨_, rfl⟩
  have HR : Hd (storeOk a = r) := ⟨hr⟩
  rw [hr]
  clear hr
  simp only [RcStore] at h
  obtain ⟨x0, m0, d0, x1, m1, d1, x4, m4, d4, x6, m6, d6, rfl, r0, r4⟩ := h
  have HL := rdStore_lens r0
  have HW : Hd (wtTab a.t ≤ 1048576 ∧ a.d.secs.length = m0 ∧ a.d.cache.length = m1) := ⟨by unfold wtStore at hw; omega, HL.1, HL.2.1⟩
  have hm1 := HL.2.2
  clear hw HL
  obtain ⟨ok1, hok1⟩ : ∃ x, devOk a.d = x := ⟨_, rfl⟩
  obtain ⟨ok2, hok2⟩ : ∃ x, tabOk a.t = x := ⟨_, rfl⟩
  obtain ⟨fu, hfu⟩ : ∃ x, a.d.fuse = x := ⟨_, rfl⟩
  obtain ⟨dn, hdn⟩ : ∃ x, a.d.down = x := ⟨_, rfl⟩
  obtain ⟨ph, hph⟩ : ∃ x, a.t.phase = x := ⟨_, rfl⟩
  obtain ⟨ge, hge⟩ : ∃ x, a.gen = x := ⟨_, rfl⟩
  obtain ⟨pl, hpl⟩ : ∃ x, a.place = x := ⟨_, rfl⟩
  rw [hfu, hdn] at r0 ⊢
  rw [hph] at r4 ⊢
  rw [hge, hpl]
  have HO : Hd (devOk a.d = ok1 ∧ tabOk a.t = ok2 ∧ a.d.down = dn ∧ a.gen = ge ∧ a.place = pl) := ⟨hok1, hok2, hdn, hge, hpl⟩
  have R0 : Hd (RdDev w [.slice x0 m0 d0, .slice x1 m1 d1, .int .i64 fu, .bool dn] a.d) := ⟨r0⟩
  have R4 : Hd (RcTab w [.slice x4 m4 d4, .int .i64 ph, .slice x6 m6 d6] a.t) := ⟨r4⟩
  clear r0 r4 hok1 hok2 hfu hdn hph hge hpl
  go_enter Tryz.func5, Tryz.ntmps5
  go_wp2_with fail
  refine (specDevOk_rd _ a.d _ (rdDev_ok.below R0.out (below_lit w _))).mono ?_
  rintro e w1 ⟨rfl, hb⟩
  rewrite [HO.out.1]
  have K1 : Hd (w1.heap[w.heap.size]? = some (.cells #[.slice x0 m0 d0, .slice x1 m1 d1, .int .i64 fu, .bool dn, .slice x4 m4 d4, .int .i64 ph, .slice x6 m6 d6, .int .i64 ge, .int .i64 pl] 42 (0, 0))) := ⟨(hb.block _ (by simp)).trans (heap_alloc_new w _)⟩
  have B1 : Hd (Below w.heap.size w w1) := ⟨Below.next (below_lit w _) hb⟩
  clear hb
  cases ok1
  · obtain rfl : r = false := by rw [← HR.out]; exact storeOk_dev HO.out.1
    go_wp2_with fail
    go_ret
    exact ⟨rfl, B1.out⟩
  have c0 := cellsA K1.out 0 rfl
  by_cases h62 : ¬ m0 = 62
  · obtain rfl : r = false := by rw [← HR.out]; exact storeOk_secs (by rw [HW.out.2.1]; exact h62)
    have h62' : ((m0 : Int) == 62) = false := by simp; omega
    go_wp2_with fail
    go_ret
    exact ⟨rfl, B1.out⟩
  obtain rfl : m0 = 62 := Decidable.of_not_not h62
  clear h62
  have c1 := cellsA K1.out 1 rfl
  by_cases hcd : 0 < m1 ∧ dn = false
  · obtain ⟨hc, rfl⟩ := hcd
    obtain rfl : r = false := by rw [← HR.out]; exact storeOk_cache (by rw [HW.out.2.2]; omega) HO.out.2.2.1
    have c3 := cellsA K1.out 3 rfl
    have hcI : (0 : Int) < (m1 : Int) := by omega
    go_wp2_with fail
    go_ret
    exact ⟨rfl, B1.out⟩
  have HR2 : Hd ((ok2 && inB ge 1 60000 && inB pl 0 30) = r) := ⟨by
    rw [← HR.out, storeOk_rest HO.out.1 HW.out.2.1 (by
      by_cases h0 : m1 = 0
      · exact .inl (by rw [HW.out.2.2]; exact h0)
      · exact .inr (by rw [HO.out.2.2.1]; cases dn <;> simp_all <;> omega)), HO.out.2.1, HO.out.2.2.2.1, HO.out.2.2.2.2]⟩
  have c3 := cellsA K1.out 3 rfl
  have c4 := cellsA K1.out 4 rfl
  have c5 := cellsA K1.out 5 rfl
  have c6 := cellsA K1.out 6 rfl
  have HT : Hd (∀ w', Below w1.heap.size w1 w' → Calls Tryz.prog 12 #[.agg #[.slice x4 m4 d4, .int .i64 ph, .slice x6 m6 d6]] w' fun e w' => e = .returned (.bool ok2) ∧ Below w1.heap.size w1 w') := ⟨fun w' hb => by
    have hB := Below.next B1.out hb
    refine (specTabOk_rd [.slice x4 m4 d4, .int .i64 ph, .slice x6 m6 d6] a.t w' (rcTab_ok.below R4.out hB) HW.out.1).mono ?_
    rintro e w9 ⟨rfl, hb9⟩
    exact ⟨by rw [HO.out.2.1], Below.next hb hb9⟩⟩
  by_cases hc : 0 < m1
  · obtain rfl : dn = true := by cases dn <;> simp_all
    have hcI : (0 : Int) < (m1 : Int) := by omega
    go_wp2_with fail
    refine (HT.out _ (Below.refl _ _)).mono ?_
    rintro e w2 ⟨rfl, hb2⟩
    have K2 : Hd (w2.heap[w.heap.size]? = some (.cells #[.slice x0 62 d0, .slice x1 m1 d1, .int .i64 fu, .bool true, .slice x4 m4 d4, .int .i64 ph, .slice x6 m6 d6, .int .i64 ge, .int .i64 pl] 42 (0, 0))) := ⟨(hb2.block _ (lt_of_block K1.out)).trans K1.out⟩
    have B2 : Hd (Below w.heap.size w w2) := ⟨Below.next B1.out hb2⟩
    clear hb2 c0 c1 c3 c4 c5 c6 HT K1 B1 R0 R4 HO HW
    cases ok2
    · obtain rfl : r = false := by rw [← HR2.out]; rfl
      go_wp2_with fail
      go_ret
      exact ⟨rfl, B2.out⟩
    have k7 := cellsA K2.out 7 rfl
    go_wp2_with fail
    refine (l1In_any ge 1 60000 _).mono ?_
    rintro e w3 ⟨rfl, rfl⟩
    obtain ⟨ig, hig⟩ : ∃ x, inB ge 1 60000 = x := ⟨_, rfl⟩
    have HR3 : Hd ((true && ig && inB pl 0 30) = r) := ⟨by rw [← hig]; exact HR2.out⟩
    rw [hig]
    clear hig HR2
    cases ig
    · obtain rfl : r = false := by rw [← HR3.out]; rfl
      go_wp2_with fail
      go_ret
      exact ⟨rfl, B2.out⟩
    have k8 := cellsA K2.out 8 rfl
    go_wp2_with fail
    refine (l1In_any pl 0 30 _).mono ?_
    rintro e w4 ⟨rfl, rfl⟩
    obtain ⟨ip, hip⟩ : ∃ x, inB pl 0 30 = x := ⟨_, rfl⟩
    obtain rfl : ip = r := by rw [← HR3.out, hip]; rfl
    rw [hip]
    clear hip HR3
    go_wp2_with fail
    go_ret
    exact ⟨rfl, B2.out⟩
  · obtain rfl : m1 = 0 := by omega
    clear hc
    cases dn
    · go_wp2_with fail
      refine (HT.out _ (Below.refl _ _)).mono ?_
      rintro e w2 ⟨rfl, hb2⟩
      have K2 : Hd (w2.heap[w.heap.size]? = some (.cells #[.slice x0 62 d0, .slice x1 0 d1, .int .i64 fu, .bool false, .slice x4 m4 d4, .int .i64 ph, .slice x6 m6 d6, .int .i64 ge, .int .i64 pl] 42 (0, 0))) := ⟨(hb2.block _ (lt_of_block K1.out)).trans K1.out⟩
      have B2 : Hd (Below w.heap.size w w2) := ⟨Below.next B1.out hb2⟩
      clear hb2 c0 c1 c3 c4 c5 c6 HT K1 B1 R0 R4 HO HW
      cases ok2
      · obtain rfl : r = false := by rw [← HR2.out]; rfl
        go_wp2_with fail
        go_ret
        exact ⟨rfl, B2.out⟩
      have k7 := cellsA K2.out 7 rfl
      go_wp2_with fail
      refine (l1In_any ge 1 60000 _).mono ?_
      rintro e w3 ⟨rfl, rfl⟩
      obtain ⟨ig, hig⟩ : ∃ x, inB ge 1 60000 = x := ⟨_, rfl⟩
      have HR3 : Hd ((true && ig && inB pl 0 30) = r) := ⟨by rw [← hig]; exact HR2.out⟩
      rw [hig]
      clear hig HR2
      cases ig
      · obtain rfl : r = false := by rw [← HR3.out]; rfl
        go_wp2_with fail
        go_ret
        exact ⟨rfl, B2.out⟩
      have k8 := cellsA K2.out 8 rfl
      go_wp2_with fail
      refine (l1In_any pl 0 30 _).mono ?_
      rintro e w4 ⟨rfl, rfl⟩
      obtain ⟨ip, hip⟩ : ∃ x, inB pl 0 30 = x := ⟨_, rfl⟩
      obtain rfl : ip = r := by rw [← HR3.out, hip]; rfl
      rw [hip]
      clear hip HR3
      go_wp2_with fail
      go_ret
      exact ⟨rfl, B2.out⟩
    · go_wp2_with fail
      refine (HT.out _ (Below.refl _ _)).mono ?_
      rintro e w2 ⟨rfl, hb2⟩
      have K2 : Hd (w2.heap[w.heap.size]? = some (.cells #[.slice x0 62 d0, .slice x1 0 d1, .int .i64 fu, .bool true, .slice x4 m4 d4, .int .i64 ph, .slice x6 m6 d6, .int .i64 ge, .int .i64 pl] 42 (0, 0))) := ⟨(hb2.block _ (lt_of_block K1.out)).trans K1.out⟩
      have B2 : Hd (Below w.heap.size w w2) := ⟨Below.next B1.out hb2⟩
      clear hb2 c0 c1 c3 c4 c5 c6 HT K1 B1 R0 R4 HO HW
      cases ok2
      · obtain rfl : r = false := by rw [← HR2.out]; rfl
        go_wp2_with fail
        go_ret
        exact ⟨rfl, B2.out⟩
      have k7 := cellsA K2.out 7 rfl
      go_wp2_with fail
      refine (l1In_any ge 1 60000 _).mono ?_
      rintro e w3 ⟨rfl, rfl⟩
      obtain ⟨ig, hig⟩ : ∃ x, inB ge 1 60000 = x := ⟨_, rfl⟩
      have HR3 : Hd ((true && ig && inB pl 0 30) = r) := ⟨by rw [← hig]; exact HR2.out⟩
      rw [hig]
      clear hig HR2
      cases ig
      · obtain rfl : r = false := by rw [← HR3.out]; rfl
        go_wp2_with fail
        go_ret
        exact ⟨rfl, B2.out⟩
      have k8 := cellsA K2.out 8 rfl
      go_wp2_with fail
      refine (l1In_any pl 0 30 _).mono ?_
      rintro e w4 ⟨rfl, rfl⟩
      obtain ⟨ip, hip⟩ : ∃ x, inB pl 0 30 = x := ⟨_, rfl⟩
      obtain rfl : ip = r := by rw [← HR3.out, hip]; rfl
      rw [hip]
      clear hip HR3
      go_wp2_with fail
      go_ret
      exact ⟨rfl, B2.out⟩

end Go.Proofs.YtlididoalekeoaaGreatDoor
/- The laws' copy of a Store. -/
namespace Go.Proofs.YtlididoalekeoaaGreatDoor
set_option maxRecDepth 4000
open Go.RowKit

set_option maxHeartbeats 16000000 in
theorem toStore_rd (cs : List Value) (a : StoreD) (w : World) (h : RdStore w cs a) (hw : wtStore a ≤ 1073741824) :
    Calls Tryz.prog 6 #[.agg cs.toArray] w (AnsAgg OwStore a w) := by
  obtain ⟨⟨l0, l1, l2, l3⟩, ⟨l4, l5, l6⟩, l7, l8⟩ := a
  simp only [RdStore] at h
  obtain ⟨x0, m0, d0, x1, m1, d1, x4, m4, d4, x6, m6, d6, rfl, r0, r4⟩ := h
  unfold wtStore at hw
  dsimp only at hw
  have R0 : Hd (RdDev w [.slice x0 m0 d0, .slice x1 m1 d1, .int .i64 l2, .bool l3] (⟨l0, l1, l2, l3⟩ : DevD) ∧ wtDev (⟨l0, l1, l2, l3⟩ : DevD) ≤ 1073741824) := ⟨r0, by omega⟩
  have R4 : Hd (RdTab w [.slice x4 m4 d4, .int .i64 l5, .slice x6 m6 d6] (⟨l4, l5, l6⟩ : TabD) ∧ wtTab (⟨l4, l5, l6⟩ : TabD) ≤ 1073741824) := ⟨r4, by omega⟩
  clear hw r0 r4
  go_enter Tryz.func6, Tryz.ntmps6
  go_wp2_with fail
  generalize hA : Obj.cells #[Value.slice x0 m0 d0, .slice x1 m1 d1, .int .i64 l2, .bool l3, .slice x4 m4 d4, .int .i64 l5, .slice x6 m6 d6, .int .i64 l7, .int .i64 l8] 31 = A
  generalize hB : Obj.cells #[Value.slice none 0 0, .slice none 0 0, .int .i64 0, .bool false, .slice none 0 0, .int .i64 0, .slice none 0 0, .int .i64 0, .int .i64 0] 42 = B
  have h3 : Below w.heap.size w (((w.alloc A).alloc B).alloc B) := below_lit3 w A B B
  refine (toDev_rd _ (⟨l0, l1, l2, l3⟩ : DevD) _ (rdDev_ok.below R0.out.1 h3) R0.out.2).mono ?_
  rintro e w1 ⟨⟨csr, rfl, F0, hE, hF⟩, hb⟩
  have hE0 := hE
  simp only [OwDev] at hE0
  obtain ⟨y0, n0, b0, y1, n1, b1, _, _, rfl, _⟩ := hE0
  obtain ⟨k0, k1, k2⟩ := laid3 w A B B
  subst hA hB
  have A1 : Hd (w1.heap[w.heap.size]? = some (.cells #[Value.slice x0 m0 d0, .slice x1 m1 d1, .int .i64 l2, .bool l3, .slice x4 m4 d4, .int .i64 l5, .slice x6 m6 d6, .int .i64 l7, .int .i64 l8] 31 (0, 0))) := ⟨(hb.block _ (by simp; omega)).trans k0⟩
  have Z1 : Hd (w1.heap[w.heap.size + 1]? = some (.cells #[Value.slice none 0 0, .slice none 0 0, .int .i64 0, .bool false, .slice none 0 0, .int .i64 0, .slice none 0 0, .int .i64 0, .int .i64 0] 42 (0, 0))) := ⟨(hb.block _ (by simp)).trans k1⟩
  have C1 : Hd (w1.heap[w.heap.size + 1 + 1]? = some (.cells #[Value.slice none 0 0, .slice none 0 0, .int .i64 0, .bool false, .slice none 0 0, .int .i64 0, .slice none 0 0, .int .i64 0, .int .i64 0] 42 (0, 0))) := ⟨(hb.block _ (by simp)).trans k2⟩
  simp only [World.size_alloc] at hF
  have B1 : Hd (Below w.heap.size w w1) := ⟨Below.next h3 hb⟩
  have O0_1 : Hd (OwDev w1 [.slice y0 n0 b0, .slice y1 n1 b1, .int .i64 l2, .bool l3] F0 (⟨l0, l1, l2, l3⟩ : DevD) ∧ ∀ x, F0 x → w.heap.size + 3 ≤ x ∧ x < w1.heap.size) := ⟨hE, fun x hx => ⟨by have := hF x hx; omega, owDev_ok.lt hE x hx⟩⟩
  clear hE hF hb h3 k0 k1 k2
  have hth1 := thereA C1.out 0 4 (by simp)
  have hon1 : Hd ((#[.slice y0 n0 b0, .slice y1 n1 b1, .int .i64 l2, .bool l3] : Array Value).all (·.oneCell') = true) := ⟨by simp [Value.oneCell']⟩
  obtain ⟨V1, hV1⟩ : ∃ V, w1.setCells (w.heap.size + 1 + 1) 0 [.slice y0 n0 b0, .slice y1 n1 b1, .int .i64 l2, .bool l3] = V := ⟨_, rfl⟩
  have HV1 : Hd (w1.setCells (w.heap.size + 1 + 1) 0 [.slice y0 n0 b0, .slice y1 n1 b1, .int .i64 l2, .bool l3] = V1) := ⟨hV1⟩
  clear hV1
  have A1s : Hd (V1.heap[w.heap.size]? = some (.cells #[Value.slice x0 m0 d0, .slice x1 m1 d1, .int .i64 l2, .bool l3, .slice x4 m4 d4, .int .i64 l5, .slice x6 m6 d6, .int .i64 l7, .int .i64 l8] 31 (0, 0))) := ⟨by rw [← HV1.out]; exact block_setN A1.out _ _ (by omega)⟩
  have Z1s : Hd (V1.heap[w.heap.size + 1]? = some (.cells #[Value.slice none 0 0, .slice none 0 0, .int .i64 0, .bool false, .slice none 0 0, .int .i64 0, .slice none 0 0, .int .i64 0, .int .i64 0] 42 (0, 0))) := ⟨by rw [← HV1.out]; exact block_setN Z1.out _ _ (by omega)⟩
  have C1s : Hd (V1.heap[w.heap.size + 1 + 1]? = some (.cells #[Value.slice y0 n0 b0, .slice y1 n1 b1, .int .i64 l2, .bool l3, .slice none 0 0, .int .i64 0, .slice none 0 0, .int .i64 0, .int .i64 0] 42 (0, 0))) := ⟨by rw [← HV1.out]; exact setCells_lay C1.out _ 0 (by simp) rfl⟩
  have B1s : Hd (Below w.heap.size w V1) := ⟨by rw [← HV1.out]; exact bsetN (by omega) _ _ B1.out⟩
  have O0_1s : Hd (OwDev V1 [.slice y0 n0 b0, .slice y1 n1 b1, .int .i64 l2, .bool l3] F0 (⟨l0, l1, l2, l3⟩ : DevD) ∧ ∀ x, F0 x → w.heap.size + 3 ≤ x ∧ x < V1.heap.size) := ⟨by rw [← HV1.out]; exact ⟨owDev_ok.keep O0_1.out.1 (fun b hb => block_setN rfl _ _ (by have := (O0_1.out.2 b hb).1; omega)), fun x hx => ⟨(O0_1.out.2 x hx).1, by rw [setCells_size]; exact (O0_1.out.2 x hx).2⟩⟩⟩
  clear A1 Z1 C1 B1 O0_1
  have c4 := cellsA (show V1.heap[w.heap.size]? = some (.cells #[Value.slice x0 m0 d0, .slice x1 m1 d1, .int .i64 l2, .bool l3, .slice x4 m4 d4, .int .i64 l5, .slice x6 m6 d6, .int .i64 l7, .int .i64 l8] 31 (0, 0)) from A1s.out) 4 rfl
  have c5 := cellsA (show V1.heap[w.heap.size]? = some (.cells #[Value.slice x0 m0 d0, .slice x1 m1 d1, .int .i64 l2, .bool l3, .slice x4 m4 d4, .int .i64 l5, .slice x6 m6 d6, .int .i64 l7, .int .i64 l8] 31 (0, 0)) from A1s.out) 5 rfl
  have c6 := cellsA (show V1.heap[w.heap.size]? = some (.cells #[Value.slice x0 m0 d0, .slice x1 m1 d1, .int .i64 l2, .bool l3, .slice x4 m4 d4, .int .i64 l5, .slice x6 m6 d6, .int .i64 l7, .int .i64 l8] 31 (0, 0)) from A1s.out) 6 rfl
  have A2 : Hd (V1.heap[w.heap.size]? = some (.cells #[Value.slice x0 m0 d0, .slice x1 m1 d1, .int .i64 l2, .bool l3, .slice x4 m4 d4, .int .i64 l5, .slice x6 m6 d6, .int .i64 l7, .int .i64 l8] 31 (0, 0))) := ⟨A1s.out⟩
  have Z2 : Hd (V1.heap[w.heap.size + 1]? = some (.cells #[Value.slice none 0 0, .slice none 0 0, .int .i64 0, .bool false, .slice none 0 0, .int .i64 0, .slice none 0 0, .int .i64 0, .int .i64 0] 42 (0, 0))) := ⟨Z1s.out⟩
  have C2 : Hd (V1.heap[w.heap.size + 1 + 1]? = some (.cells #[Value.slice y0 n0 b0, .slice y1 n1 b1, .int .i64 l2, .bool l3, .slice none 0 0, .int .i64 0, .slice none 0 0, .int .i64 0, .int .i64 0] 42 (0, 0))) := ⟨C1s.out⟩
  have B2 : Hd (Below w.heap.size w V1) := ⟨B1s.out⟩
  have O0_2 : Hd (OwDev V1 [.slice y0 n0 b0, .slice y1 n1 b1, .int .i64 l2, .bool l3] F0 (⟨l0, l1, l2, l3⟩ : DevD) ∧ ∀ x, F0 x → w.heap.size + 3 ≤ x ∧ x < V1.heap.size) := ⟨owDev_ok.keep O0_1s.out.1 (fun b hb => rfl), fun x hx => ⟨(O0_1s.out.2 x hx).1, by exact (O0_1s.out.2 x hx).2⟩⟩
  go_wp2_with (first | (show wpList _ _ _ (Oper.mk _ (Op.store 36 _ _) _ _ _ _ :: _) _ _; refine wpList_store_to 36 _ _ rfl rfl (w.heap.size + 1 + 1) 0 #[.slice y0 n0 b0, .slice y1 n1 b1, .int .i64 l2, .bool l3] rfl rfl hth1 infoDev hon1.out HV1.out ?_))
  clear A1s Z1s C1s B1s O0_1s c4 c5 c6 hth1 hon1 HV1
  generalize V1 = w2 at *
  refine (toTab_rd _ (⟨l4, l5, l6⟩ : TabD) _ (rdTab_ok.below R4.out.1 B2.out) R4.out.2).mono ?_
  rintro e w3 ⟨⟨csr, rfl, F4, hE, hF⟩, hb⟩
  have hE0 := hE
  simp only [OwTab] at hE0
  obtain ⟨y4, n4, b4, y6, n6, b6, _, _, rfl, _⟩ := hE0
  have A3 : Hd (w3.heap[w.heap.size]? = some (.cells #[Value.slice x0 m0 d0, .slice x1 m1 d1, .int .i64 l2, .bool l3, .slice x4 m4 d4, .int .i64 l5, .slice x6 m6 d6, .int .i64 l7, .int .i64 l8] 31 (0, 0))) := ⟨(hb.block _ (lt_of_block A2.out)).trans A2.out⟩
  have Z3 : Hd (w3.heap[w.heap.size + 1]? = some (.cells #[Value.slice none 0 0, .slice none 0 0, .int .i64 0, .bool false, .slice none 0 0, .int .i64 0, .slice none 0 0, .int .i64 0, .int .i64 0] 42 (0, 0))) := ⟨(hb.block _ (lt_of_block Z2.out)).trans Z2.out⟩
  have C3 : Hd (w3.heap[w.heap.size + 1 + 1]? = some (.cells #[Value.slice y0 n0 b0, .slice y1 n1 b1, .int .i64 l2, .bool l3, .slice none 0 0, .int .i64 0, .slice none 0 0, .int .i64 0, .int .i64 0] 42 (0, 0))) := ⟨(hb.block _ (lt_of_block C2.out)).trans C2.out⟩
  have B3 : Hd (Below w.heap.size w w3) := ⟨Below.next B2.out hb⟩
  have O0_3 : Hd (OwDev w3 [.slice y0 n0 b0, .slice y1 n1 b1, .int .i64 l2, .bool l3] F0 (⟨l0, l1, l2, l3⟩ : DevD) ∧ ∀ x, F0 x → w.heap.size + 3 ≤ x ∧ x < w3.heap.size) := ⟨owDev_ok.below O0_2.out.1 hb, fun x hx => ⟨(O0_2.out.2 x hx).1, by have := (O0_2.out.2 x hx).2; have := hb.size; omega⟩⟩
  have O4_3 : Hd (OwTab w3 [.slice y4 n4 b4, .int .i64 l5, .slice y6 n6 b6] F4 (⟨l4, l5, l6⟩ : TabD) ∧ ∀ x, F4 x → w.heap.size + 3 ≤ x ∧ x < w3.heap.size) := ⟨hE, fun x hx => ⟨by have := hF x hx; have := lt_of_block C2.out; omega, owTab_ok.lt hE x hx⟩⟩
  have X0_4 : Hd (∀ x, F0 x → ¬ F4 x) := ⟨fun x hx hy => by have := (O0_2.out.2 x hx).2; have := hF x hy; omega⟩
  clear hE hF hb A2 Z2 C2 B2 O0_2
  have hth3 := thereA C3.out 4 3 (by simp)
  have hon3 : Hd ((#[.slice y4 n4 b4, .int .i64 l5, .slice y6 n6 b6] : Array Value).all (·.oneCell') = true) := ⟨by simp [Value.oneCell']⟩
  obtain ⟨V3, hV3⟩ : ∃ V, w3.setCells (w.heap.size + 1 + 1) 4 [.slice y4 n4 b4, .int .i64 l5, .slice y6 n6 b6] = V := ⟨_, rfl⟩
  have HV3 : Hd (w3.setCells (w.heap.size + 1 + 1) 4 [.slice y4 n4 b4, .int .i64 l5, .slice y6 n6 b6] = V3) := ⟨hV3⟩
  clear hV3
  have A3s : Hd (V3.heap[w.heap.size]? = some (.cells #[Value.slice x0 m0 d0, .slice x1 m1 d1, .int .i64 l2, .bool l3, .slice x4 m4 d4, .int .i64 l5, .slice x6 m6 d6, .int .i64 l7, .int .i64 l8] 31 (0, 0))) := ⟨by rw [← HV3.out]; exact block_setN A3.out _ _ (by omega)⟩
  have Z3s : Hd (V3.heap[w.heap.size + 1]? = some (.cells #[Value.slice none 0 0, .slice none 0 0, .int .i64 0, .bool false, .slice none 0 0, .int .i64 0, .slice none 0 0, .int .i64 0, .int .i64 0] 42 (0, 0))) := ⟨by rw [← HV3.out]; exact block_setN Z3.out _ _ (by omega)⟩
  have C3s : Hd (V3.heap[w.heap.size + 1 + 1]? = some (.cells #[Value.slice y0 n0 b0, .slice y1 n1 b1, .int .i64 l2, .bool l3, .slice y4 n4 b4, .int .i64 l5, .slice y6 n6 b6, .int .i64 0, .int .i64 0] 42 (0, 0))) := ⟨by rw [← HV3.out]; exact setCells_lay C3.out _ 4 (by simp) rfl⟩
  have B3s : Hd (Below w.heap.size w V3) := ⟨by rw [← HV3.out]; exact bsetN (by omega) _ _ B3.out⟩
  have O0_3s : Hd (OwDev V3 [.slice y0 n0 b0, .slice y1 n1 b1, .int .i64 l2, .bool l3] F0 (⟨l0, l1, l2, l3⟩ : DevD) ∧ ∀ x, F0 x → w.heap.size + 3 ≤ x ∧ x < V3.heap.size) := ⟨by rw [← HV3.out]; exact ⟨owDev_ok.keep O0_3.out.1 (fun b hb => block_setN rfl _ _ (by have := (O0_3.out.2 b hb).1; omega)), fun x hx => ⟨(O0_3.out.2 x hx).1, by rw [setCells_size]; exact (O0_3.out.2 x hx).2⟩⟩⟩
  have O4_3s : Hd (OwTab V3 [.slice y4 n4 b4, .int .i64 l5, .slice y6 n6 b6] F4 (⟨l4, l5, l6⟩ : TabD) ∧ ∀ x, F4 x → w.heap.size + 3 ≤ x ∧ x < V3.heap.size) := ⟨by rw [← HV3.out]; exact ⟨owTab_ok.keep O4_3.out.1 (fun b hb => block_setN rfl _ _ (by have := (O4_3.out.2 b hb).1; omega)), fun x hx => ⟨(O4_3.out.2 x hx).1, by rw [setCells_size]; exact (O4_3.out.2 x hx).2⟩⟩⟩
  clear A3 Z3 C3 B3 O0_3 O4_3
  have z7 := cellsA C3s.out 7 rfl
  have g7 := freeA C3s.out 7
  have c7 := cellsA A3s.out 7 rfl
  have z8 := cellsA C3s.out 8 rfl
  have g8 := freeA C3s.out 8
  have c8 := cellsA A3s.out 8 rfl
  have CF : Hd (((V3.setCell ⟨w.heap.size + 1 + 1, 7, none⟩ (.int .i64 l7)).setCell ⟨w.heap.size + 1 + 1, 8, none⟩ (.int .i64 l8)).heap[w.heap.size + 1 + 1]? = some (.cells (List.toArray [.slice y0 n0 b0, .slice y1 n1 b1, .int .i64 l2, .bool l3, .slice y4 n4 b4, .int .i64 l5, .slice y6 n6 b6, .int .i64 l7, .int .i64 l8]) 42 (0, 0))) := ⟨setL (setL (C3s.out) 7 _ rfl) 8 _ rfl⟩
  have ZF : Hd (((V3.setCell ⟨w.heap.size + 1 + 1, 7, none⟩ (.int .i64 l7)).setCell ⟨w.heap.size + 1 + 1, 8, none⟩ (.int .i64 l8)).heap[w.heap.size + 1]? = some (.cells #[Value.slice none 0 0, .slice none 0 0, .int .i64 0, .bool false, .slice none 0 0, .int .i64 0, .slice none 0 0, .int .i64 0, .int .i64 0] 42 (0, 0))) := ⟨block_set (block_set (Z3s.out) (by omega)) (by omega)⟩
  have hrg := rangeA CF.out
  have htz := thereA ZF.out 0 9 (by simp)
  have honz : Hd ((#[.slice y0 n0 b0, .slice y1 n1 b1, .int .i64 l2, .bool l3, .slice y4 n4 b4, .int .i64 l5, .slice y6 n6 b6, .int .i64 l7, .int .i64 l8] : Array Value).all (·.oneCell') = true) := ⟨by simp [Value.oneCell']⟩
  obtain ⟨VF, hVF⟩ : ∃ V, ((V3.setCell ⟨w.heap.size + 1 + 1, 7, none⟩ (.int .i64 l7)).setCell ⟨w.heap.size + 1 + 1, 8, none⟩ (.int .i64 l8)).setCells (w.heap.size + 1) 0 [.slice y0 n0 b0, .slice y1 n1 b1, .int .i64 l2, .bool l3, .slice y4 n4 b4, .int .i64 l5, .slice y6 n6 b6, .int .i64 l7, .int .i64 l8] = V := ⟨_, rfl⟩
  have HVF : Hd (((V3.setCell ⟨w.heap.size + 1 + 1, 7, none⟩ (.int .i64 l7)).setCell ⟨w.heap.size + 1 + 1, 8, none⟩ (.int .i64 l8)).setCells (w.heap.size + 1) 0 [.slice y0 n0 b0, .slice y1 n1 b1, .int .i64 l2, .bool l3, .slice y4 n4 b4, .int .i64 l5, .slice y6 n6 b6, .int .i64 l7, .int .i64 l8] = VF) := ⟨hVF⟩
  clear hVF
  have ZR : Hd (VF.heap[w.heap.size + 1]? = some (.cells #[.slice y0 n0 b0, .slice y1 n1 b1, .int .i64 l2, .bool l3, .slice y4 n4 b4, .int .i64 l5, .slice y6 n6 b6, .int .i64 l7, .int .i64 l8] 42 (0, 0))) := ⟨by rw [← HVF.out]; exact setCells_lay ZF.out _ 0 (by simp) rfl⟩
  have BR : Hd (Below w.heap.size w VF) := ⟨by rw [← HVF.out]; exact bsetN (by omega) _ _ (bset (bset (B3s.out) _ (by omega)) _ (by omega))⟩
  have OR0 : Hd (OwDev VF [.slice y0 n0 b0, .slice y1 n1 b1, .int .i64 l2, .bool l3] F0 (⟨l0, l1, l2, l3⟩ : DevD)) := ⟨by rw [← HVF.out]; exact owDev_ok.keep O0_3s.out.1 (fun b hb => block_setN (block_set (block_set (rfl) (by have := (O0_3s.out.2 b hb).1; omega)) (by have := (O0_3s.out.2 b hb).1; omega)) _ _ (by have := (O0_3s.out.2 b hb).1; omega))⟩
  have OR4 : Hd (OwTab VF [.slice y4 n4 b4, .int .i64 l5, .slice y6 n6 b6] F4 (⟨l4, l5, l6⟩ : TabD)) := ⟨by rw [← HVF.out]; exact owTab_ok.keep O4_3s.out.1 (fun b hb => block_setN (block_set (block_set (rfl) (by have := (O4_3s.out.2 b hb).1; omega)) (by have := (O4_3s.out.2 b hb).1; omega)) _ _ (by have := (O4_3s.out.2 b hb).1; omega))⟩
  have LO : Hd (∀ x, F0 x ∨ F4 x → w.heap.size ≤ x) := ⟨fun x hx => by
    rcases hx with hx | hx
    · have := (O0_3s.out.2 x hx).1; omega
    · have := (O4_3s.out.2 x hx).1; omega⟩
  clear A3s Z3s C3s B3s O0_3s O4_3s CF ZF
  go_wp2_with (first | (show wpList _ _ _ (Oper.mk _ (Op.store 40 _ _) _ _ _ _ :: _) _ _; refine wpList_store_to 40 _ _ rfl rfl (w.heap.size + 1 + 1) 4 #[.slice y4 n4 b4, .int .i64 l5, .slice y6 n6 b6] rfl rfl hth3 infoTab hon3.out HV3.out ?_) | (show wpList _ _ _ (Oper.mk _ (Op.load 42 _) _ _ _ _ :: _) _ _; refine wpList_load_to 42 _ rfl rfl (w.heap.size + 1 + 1) 0 rfl [.slice y0 n0 b0, .slice y1 n1 b1, .int .i64 l2, .bool l3, .slice y4 n4 b4, .int .i64 l5, .slice y6 n6 b6, .int .i64 l7, .int .i64 l8] hrg Tryz.underlying42 rfl infoStore ?_) | (show wpList _ _ _ (Oper.mk _ (Op.store 42 _ _) _ _ _ _ :: _) _ _; refine wpList_store_to 42 _ _ rfl rfl (w.heap.size + 1) 0 #[.slice y0 n0 b0, .slice y1 n1 b1, .int .i64 l2, .bool l3, .slice y4 n4 b4, .int .i64 l5, .slice y6 n6 b6, .int .i64 l7, .int .i64 l8] rfl rfl htz infoStore honz.out HVF.out ?_))
  refine bodyPost_ret (results_cell_row rfl _ _ (w.heap.size + 1) _ _ (0, 0) _ rfl ZR.out Tryz.underlying42 rfl (by kernel_rfl)) rfl ?_
  exact ⟨⟨[.slice y0 n0 b0, .slice y1 n1 b1, .int .i64 l2, .bool l3, .slice y4 n4 b4, .int .i64 l5, .slice y6 n6 b6, .int .i64 l7, .int .i64 l8], rfl, fun x => F0 x ∨ F4 x, ⟨y0, n0, b0, y1, n1, b1, y4, n4, b4, y6, n6, b6, F0, F4, rfl, OR0.out, OR4.out, X0_4.out, fun x => Iff.rfl⟩, LO.out⟩, BR.out⟩

end Go.Proofs.YtlididoalekeoaaGreatDoor
