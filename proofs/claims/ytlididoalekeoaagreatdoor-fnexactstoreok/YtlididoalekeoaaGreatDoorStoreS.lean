/- StoreOk of the specification. -/
import Derived.Test.YtlididoalekeoaaGreatDoorStoreI
import Derived.Test.YtlididoalekeoaaGreatDoorDevSp
import Derived.Test.YtlididoalekeoaaGreatDoorTabOS
namespace Go.Proofs.YtlididoalekeoaaGreatDoor
set_option maxRecDepth 4000
open Go.RowKit

set_option maxHeartbeats 8000000 in
theorem specStoreOk_rd (cs : List Value) (a : StoreD) (w : World) (h : RcStore w cs a) (hw : wtStore a ≤ 1048576) :
    Calls Tryz.prog 5 #[.agg cs.toArray] w fun e w' => e = .returned (.bool (storeOk a)) ∧ Below w.heap.size w w' := by
  obtain ⟨r, hr⟩ : ∃ r, storeOk a = r := ⟨_, rfl⟩
  have HR : Hd (storeOk a = r) := ⟨hr⟩
  rw [hr]
  clear hr
  simp only [RcStore] at h
  obtain ⟨x0, m0, d0, x1, m1, d1, x4, m4, d4, x6, m6, d6, rfl, r0, r4⟩ := h
  have HL := rdStore_lens r0
  have HW : Hd (wtTab a.t ≤ 1048576 ∧ a.d.secs.length = m0 ∧ a.d.cache.length = m1) := ⟨by unfold wtStore at hw; omega, HL.1, HL.2.1⟩
  have hm1 := HL.2.2
  clear hw HL
  obtain ⟨ok1, hok1⟩ : ∃ x, devOk a.d = x := ⟨_, rfl⟩
  obtain ⟨ok2, hok2⟩ : ∃ x, tabOk a.t = x := ⟨_, rfl⟩
  obtain ⟨fu, hfu⟩ : ∃ x, a.d.fuse = x := ⟨_, rfl⟩
  obtain ⟨dn, hdn⟩ : ∃ x, a.d.down = x := ⟨_, rfl⟩
  obtain ⟨ph, hph⟩ : ∃ x, a.t.phase = x := ⟨_, rfl⟩
  obtain ⟨ge, hge⟩ : ∃ x, a.gen = x := ⟨_, rfl⟩
  obtain ⟨pl, hpl⟩ : ∃ x, a.place = x := ⟨_, rfl⟩
  rw [hfu, hdn] at r0 ⊢
  rw [hph] at r4 ⊢
  rw [hge, hpl]
  have HO : Hd (devOk a.d = ok1 ∧ tabOk a.t = ok2 ∧ a.d.down = dn ∧ a.gen = ge ∧ a.place = pl) := ⟨hok1, hok2, hdn, hge, hpl⟩
  have R0 : Hd (RdDev w [.slice x0 m0 d0, .slice x1 m1 d1, .int .i64 fu, .bool dn] a.d) := ⟨r0⟩
  have R4 : Hd (RcTab w [.slice x4 m4 d4, .int .i64 ph, .slice x6 m6 d6] a.t) := ⟨r4⟩
  clear r0 r4 hok1 hok2 hfu hdn hph hge hpl
  go_enter Tryz.func5, Tryz.ntmps5
  go_wp2_with fail
  refine (specDevOk_rd _ a.d _ (rdDev_ok.below R0.out (below_lit w _))).mono ?_
  rintro e w1 ⟨rfl, hb⟩
  rewrite [HO.out.1]
  have K1 : Hd (w1.heap[w.heap.size]? = some (.cells #[.slice x0 m0 d0, .slice x1 m1 d1, .int .i64 fu, .bool dn, .slice x4 m4 d4, .int .i64 ph, .slice x6 m6 d6, .int .i64 ge, .int .i64 pl] 42 (0, 0))) := ⟨(hb.block _ (by simp)).trans (heap_alloc_new w _)⟩
  have B1 : Hd (Below w.heap.size w w1) := ⟨Below.next (below_lit w _) hb⟩
  clear hb
  cases ok1
  · obtain rfl : r = false := by rw [← HR.out]; exact storeOk_dev HO.out.1
    go_wp2_with fail
    go_ret
    exact ⟨rfl, B1.out⟩
  have c0 := cellsA K1.out 0 rfl
  by_cases h62 : ¬ m0 = 62
  · obtain rfl : r = false := by rw [← HR.out]; exact storeOk_secs (by rw [HW.out.2.1]; exact h62)
    have h62' : ((m0 : Int) == 62) = false := by simp; omega
    go_wp2_with fail
    go_ret
    exact ⟨rfl, B1.out⟩
  obtain rfl : m0 = 62 := Decidable.of_not_not h62
  clear h62
  have c1 := cellsA K1.out 1 rfl
  by_cases hcd : 0 < m1 ∧ dn = false
  · obtain ⟨hc, rfl⟩ := hcd
    obtain rfl : r = false := by rw [← HR.out]; exact storeOk_cache (by rw [HW.out.2.2]; omega) HO.out.2.2.1
    have c3 := cellsA K1.out 3 rfl
    have hcI : (0 : Int) < (m1 : Int) := by omega
    go_wp2_with fail
    go_ret
    exact ⟨rfl, B1.out⟩
  have HR2 : Hd ((ok2 && inB ge 1 60000 && inB pl 0 30) = r) := ⟨by
    rw [← HR.out, storeOk_rest HO.out.1 HW.out.2.1 (by
      by_cases h0 : m1 = 0
      · exact .inl (by rw [HW.out.2.2]; exact h0)
      · exact .inr (by rw [HO.out.2.2.1]; cases dn <;> simp_all <;> omega)), HO.out.2.1, HO.out.2.2.2.1, HO.out.2.2.2.2]⟩
  have c3 := cellsA K1.out 3 rfl
  have c4 := cellsA K1.out 4 rfl
  have c5 := cellsA K1.out 5 rfl
  have c6 := cellsA K1.out 6 rfl
  have HT : Hd (∀ w', Below w1.heap.size w1 w' → Calls Tryz.prog 12 #[.agg #[.slice x4 m4 d4, .int .i64 ph, .slice x6 m6 d6]] w' fun e w' => e = .returned (.bool ok2) ∧ Below w1.heap.size w1 w') := ⟨fun w' hb => by
    have hB := Below.next B1.out hb
    refine (specTabOk_rd [.slice x4 m4 d4, .int .i64 ph, .slice x6 m6 d6] a.t w' (rcTab_ok.below R4.out hB) HW.out.1).mono ?_
    rintro e w9 ⟨rfl, hb9⟩
    exact ⟨by rw [HO.out.2.1], Below.next hb hb9⟩⟩
  by_cases hc : 0 < m1
  · obtain rfl : dn = true := by cases dn <;> simp_all
    have hcI : (0 : Int) < (m1 : Int) := by omega
    go_wp2_with fail
    refine (HT.out _ (Below.refl _ _)).mono ?_
    rintro e w2 ⟨rfl, hb2⟩
    have K2 : Hd (w2.heap[w.heap.size]? = some (.cells #[.slice x0 62 d0, .slice x1 m1 d1, .int .i64 fu, .bool true, .slice x4 m4 d4, .int .i64 ph, .slice x6 m6 d6, .int .i64 ge, .int .i64 pl] 42 (0, 0))) := ⟨(hb2.block _ (lt_of_block K1.out)).trans K1.out⟩
    have B2 : Hd (Below w.heap.size w w2) := ⟨Below.next B1.out hb2⟩
    clear hb2 c0 c1 c3 c4 c5 c6 HT K1 B1 R0 R4 HO HW
    cases ok2
    · obtain rfl : r = false := by rw [← HR2.out]; rfl
      go_wp2_with fail
      go_ret
      exact ⟨rfl, B2.out⟩
    have k7 := cellsA K2.out 7 rfl
    go_wp2_with fail
    refine (l1In_any ge 1 60000 _).mono ?_
    rintro e w3 ⟨rfl, rfl⟩
    obtain ⟨ig, hig⟩ : ∃ x, inB ge 1 60000 = x := ⟨_, rfl⟩
    have HR3 : Hd ((true && ig && inB pl 0 30) = r) := ⟨by rw [← hig]; exact HR2.out⟩
    rw [hig]
    clear hig HR2
    cases ig
    · obtain rfl : r = false := by rw [← HR3.out]; rfl
      go_wp2_with fail
      go_ret
      exact ⟨rfl, B2.out⟩
    have k8 := cellsA K2.out 8 rfl
    go_wp2_with fail
    refine (l1In_any pl 0 30 _).mono ?_
    rintro e w4 ⟨rfl, rfl⟩
    obtain ⟨ip, hip⟩ : ∃ x, inB pl 0 30 = x := ⟨_, rfl⟩
    obtain rfl : ip = r := by rw [← HR3.out, hip]; rfl
    rw [hip]
    clear hip HR3
    go_wp2_with fail
    go_ret
    exact ⟨rfl, B2.out⟩
  · obtain rfl : m1 = 0 := by omega
    clear hc
    cases dn
    · go_wp2_with fail
      refine (HT.out _ (Below.refl _ _)).mono ?_
      rintro e w2 ⟨rfl, hb2⟩
      have K2 : Hd (w2.heap[w.heap.size]? = some (.cells #[.slice x0 62 d0, .slice x1 0 d1, .int .i64 fu, .bool false, .slice x4 m4 d4, .int .i64 ph, .slice x6 m6 d6, .int .i64 ge, .int .i64 pl] 42 (0, 0))) := ⟨(hb2.block _ (lt_of_block K1.out)).trans K1.out⟩
      have B2 : Hd (Below w.heap.size w w2) := ⟨Below.next B1.out hb2⟩
      clear hb2 c0 c1 c3 c4 c5 c6 HT K1 B1 R0 R4 HO HW
      cases ok2
      · obtain rfl : r = false := by rw [← HR2.out]; rfl
        go_wp2_with fail
        go_ret
        exact ⟨rfl, B2.out⟩
      have k7 := cellsA K2.out 7 rfl
      go_wp2_with fail
      refine (l1In_any ge 1 60000 _).mono ?_
      rintro e w3 ⟨rfl, rfl⟩
      obtain ⟨ig, hig⟩ : ∃ x, inB ge 1 60000 = x := ⟨_, rfl⟩
      have HR3 : Hd ((true && ig && inB pl 0 30) = r) := ⟨by rw [← hig]; exact HR2.out⟩
      rw [hig]
      clear hig HR2
      cases ig
      · obtain rfl : r = false := by rw [← HR3.out]; rfl
        go_wp2_with fail
        go_ret
        exact ⟨rfl, B2.out⟩
      have k8 := cellsA K2.out 8 rfl
      go_wp2_with fail
      refine (l1In_any pl 0 30 _).mono ?_
      rintro e w4 ⟨rfl, rfl⟩
      obtain ⟨ip, hip⟩ : ∃ x, inB pl 0 30 = x := ⟨_, rfl⟩
      obtain rfl : ip = r := by rw [← HR3.out, hip]; rfl
      rw [hip]
      clear hip HR3
      go_wp2_with fail
      go_ret
      exact ⟨rfl, B2.out⟩
    · go_wp2_with fail
      refine (HT.out _ (Below.refl _ _)).mono ?_
      rintro e w2 ⟨rfl, hb2⟩
      have K2 : Hd (w2.heap[w.heap.size]? = some (.cells #[.slice x0 62 d0, .slice x1 0 d1, .int .i64 fu, .bool true, .slice x4 m4 d4, .int .i64 ph, .slice x6 m6 d6, .int .i64 ge, .int .i64 pl] 42 (0, 0))) := ⟨(hb2.block _ (lt_of_block K1.out)).trans K1.out⟩
      have B2 : Hd (Below w.heap.size w w2) := ⟨Below.next B1.out hb2⟩
      clear hb2 c0 c1 c3 c4 c5 c6 HT K1 B1 R0 R4 HO HW
      cases ok2
      · obtain rfl : r = false := by rw [← HR2.out]; rfl
        go_wp2_with fail
        go_ret
        exact ⟨rfl, B2.out⟩
      have k7 := cellsA K2.out 7 rfl
      go_wp2_with fail
      refine (l1In_any ge 1 60000 _).mono ?_
      rintro e w3 ⟨rfl, rfl⟩
      obtain ⟨ig, hig⟩ : ∃ x, inB ge 1 60000 = x := ⟨_, rfl⟩
      have HR3 : Hd ((true && ig && inB pl 0 30) = r) := ⟨by rw [← hig]; exact HR2.out⟩
      rw [hig]
      clear hig HR2
      cases ig
      · obtain rfl : r = false := by rw [← HR3.out]; rfl
        go_wp2_with fail
        go_ret
        exact ⟨rfl, B2.out⟩
      have k8 := cellsA K2.out 8 rfl
      go_wp2_with fail
      refine (l1In_any pl 0 30 _).mono ?_
      rintro e w4 ⟨rfl, rfl⟩
      obtain ⟨ip, hip⟩ : ∃ x, inB pl 0 30 = x := ⟨_, rfl⟩
      obtain rfl : ip = r := by rw [← HR3.out, hip]; rfl
      rw [hip]
      clear hip HR3
      go_wp2_with fail
      go_ret
      exact ⟨rfl, B2.out⟩

end Go.Proofs.YtlididoalekeoaaGreatDoor
