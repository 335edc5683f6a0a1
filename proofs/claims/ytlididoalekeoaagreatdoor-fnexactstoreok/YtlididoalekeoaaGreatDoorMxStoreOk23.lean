/- Parts of the proof, one behind the other. -/
import Derived.Test.YtlididoalekeoaaGreatDoorMxStoreOk22
import Derived.Test.YtlididoalekeoaaGreatDoorMxStoreOk19
import Derived.Test.YtlididoalekeoaaGreatDoorMxStoreOk17
import Derived.Test.YtlididoalekeoaaGreatDoorMxStoreOk16
import Derived.BigQuiet
import Derived.Test.YtlididoalekeoaaGreatDoorMxStoreOk20
import Derived.Test.YtlididoalekeoaaGreatDoorMxStoreOk13
/- Parts of the proof, one behind the other. -/
/- Contract: marks that go up, in the program. -/
namespace Go.Proofs.YtlididoalekeoaaGreatDoor
set_option maxRecDepth 4000
open Go.RowKit

set_option maxHeartbeats 4000000 in
theorem ascMark_any (ao : Option Addr) (len cap : Nat) (ls : List MarkD) (w : World) (h : RdMarkS w [.slice ao len cap] ls) (hw : len ≤ 1073741824) :
    Calls Tryz.prog 35 #[.slice ao len cap, .func (.func 36) #[] #[]] w fun e w' => e = .returned (.bool (ascB ltMark ls)) ∧ Below w.heap.size w w' := by
  have HL : Hd (RdMarkS w [.slice ao len cap] ls) := ⟨h⟩
  obtain ⟨hl, _⟩ := rdS_len h
  obtain ⟨R, hR⟩ : ∃ R, ascB ltMark ls = R := ⟨_, rfl⟩
  rw [hR]
  have HN : Hd (ls.length = len ∧ ascB ltMark (ls.drop 0) = R) := ⟨hl, hR⟩
  clear h hl hR
  go_enter Tryz.func35, Tryz.ntmps35
  go_wp2_with fail
  go_loopw [5] (fun i wr => ∃ j : Nat, i = .int .i64 (((j + 1 : Nat) : Int)) ∧ j ≤ len ∧ Hd (ascB ltMark (ls.drop j) = R) ∧ Hd (Below w.heap.size w wr)) (fun i _ => len + 1 - (intOf i).toNat)
  case atStart => exact ⟨0, rfl, Nat.zero_le _, ⟨HN.out.2⟩, ⟨Below.refl _ _⟩⟩
  case round =>
    obtain ⟨j, rfl, hj, HK, HB⟩ := hrel
    by_cases hlt : j + 1 < len
    · have hlt' : ((j + 1 : Nat) : Int) < (len : Int) := by omega
      have h0 : (0 : Int) ≤ ((j + 1 : Nat) : Int) := by omega
      have hs : IntKind.i64.wrap (((j + 1 : Nat) : Int) - 1) = (j : Int) := by rw [IntKind.wrap_i64]; omega
      have hs3 : IntKind.i64.wrap ((j : Int) + 1 - 1) = (j : Int) := by rw [IntKind.wrap_i64]; omega
      have hs4 : IntKind.i64.wrap (j : Int) = (j : Int) := by rw [IntKind.wrap_i64]; omega
      have hj0 : (0 : Int) ≤ (j : Int) := by omega
      have hjl : (j : Int) < (len : Int) := by omega
      obtain ⟨a, ha⟩ := get_some (l := ls) (j := j) (by rw [HN.out.1]; omega)
      obtain ⟨b, hb⟩ := get_some (l := ls) (j := j + 1) (by rw [HN.out.1]; exact hlt)
      have HE : Hd (R = (ltMark a b && ascB ltMark (ls.drop (j + 1)))) := ⟨by rw [← HK.out]; exact ascB_at ha hb⟩
      obtain ⟨q1, o1, k1, e1, _, r1, z1⟩ := rdS_get HL.out ha
      obtain ⟨q2, o2, k2, e2, _, r2, z2⟩ := rdS_get HL.out hb
      subst e1
      simp only [Option.some.injEq, Addr.mk.injEq, and_true] at e2
      obtain ⟨rfl, rfl⟩ := e2
      replace r1 := rdMark_ok.below r1 HB.out
      replace r2 := rdMark_ok.below r2 HB.out
      have Q : Hd (RdMark wr k1 a ∧ RdMark wr k2 b) := ⟨r1, r2⟩
      obtain ⟨a0, a1, a2⟩ := a
      obtain ⟨b0, b1, b2⟩ := b
      simp only [RdMark] at r1 r2
      subst r1 r2
      have t0 := cell_below (z1 0 _ rfl) HB.out
      have u0 := cell_below (z2 0 _ rfl) HB.out
      have t1 := cell_below (z1 1 _ rfl) HB.out
      have u1 := cell_below (z2 1 _ rfl) HB.out
      have t2 := cell_below (z1 2 _ rfl) HB.out
      have u2 := cell_below (z2 2 _ rfl) HB.out
      simp only [Nat.add_zero] at t0 u0
      clear ha hb z1 z2
      go_wp2_with fail
      have KK : Hd (∀ w', Below wr.heap.size wr w' → (w'.cell? ⟨q1, o1 + j * 3, none⟩ = some (.int .i64 a0) ∧ w'.cell? ⟨q1, o1 + j * 3 + 1, none⟩ = some (.int .i64 a1) ∧ w'.cell? ⟨q1, o1 + j * 3 + 2, none⟩ = some (.int .i64 a2) ∧ w'.cell? ⟨q1, o1 + (j + 1) * 3, none⟩ = some (.int .i64 b0) ∧ w'.cell? ⟨q1, o1 + (j + 1) * 3 + 1, none⟩ = some (.int .i64 b1) ∧ w'.cell? ⟨q1, o1 + (j + 1) * 3 + 2, none⟩ = some (.int .i64 b2))) := ⟨fun w' hb => ⟨cell_below t0 hb, cell_below t1 hb, cell_below t2 hb, cell_below u0 hb, cell_below u1 hb, cell_below u2 hb⟩⟩
      have D0 : Hd (Below wr.heap.size wr wr.drew) := ⟨(Below.refl _ wr).drew⟩
      go_region_held (fun w' => w'.cell? ⟨q1, o1 + j * 3, none⟩ = some (.int .i64 a0) ∧ w'.cell? ⟨q1, o1 + j * 3 + 1, none⟩ = some (.int .i64 a1) ∧ w'.cell? ⟨q1, o1 + j * 3 + 2, none⟩ = some (.int .i64 a2) ∧ w'.cell? ⟨q1, o1 + (j + 1) * 3, none⟩ = some (.int .i64 b0) ∧ w'.cell? ⟨q1, o1 + (j + 1) * 3 + 1, none⟩ = some (.int .i64 b1) ∧ w'.cell? ⟨q1, o1 + (j + 1) * 3 + 2, none⟩ = some (.int .i64 b2)) (first | (with_reducible exact KK.out _ D2.out) | (with_reducible exact KK.out _ D1.out) | (with_reducible exact KK.out _ D0.out))
        (first | (have G1 := D1; clear G1; go_at_call 36; refine (whoOfMark_any _ ⟨b0, b1, b2⟩ _ (rdMark_ok.below Q.out.2 D1.out)).mono ?_; rintro e w2 ⟨rfl, hB⟩; have D2 : Hd (Below wr.heap.size wr w2) := ⟨Below.next D1.out hB⟩; clear hB) | (go_at_call 36; refine (whoOfMark_any _ ⟨a0, a1, a2⟩ _ (rdMark_ok.below Q.out.1 D0.out)).mono ?_; rintro e w1 ⟨rfl, hB⟩; have D1 : Hd (Below wr.heap.size wr w1) := ⟨Below.next D0.out hB⟩; clear hB))
      all_goals
        have HB2 : Hd (Below w.heap.size w w2) := ⟨Below.next HB.out D2.out⟩
        clear KK D0 D1 D2 Q HB t0 u0 t1 u1 t2 u2
        by_cases hc : b0 ≤ a0
        · have HF : Hd (R = false) := ⟨by rw [HE.out, show ltMark ⟨a0, a1, a2⟩ ⟨b0, b1, b2⟩ = false from by simp only [ltMark]; exact decide_eq_false (by omega)]; rfl⟩
          clear HE
          go_wp2_with fail
          go_ret
          exact ⟨by rw [HF.out]; rfl, HB2.out⟩
        · have HF : Hd (ascB ltMark (ls.drop (j + 1)) = R) := ⟨by rw [HE.out, show ltMark ⟨a0, a1, a2⟩ ⟨b0, b1, b2⟩ = true from by simp only [ltMark]; exact decide_eq_true (by omega), Bool.true_and]⟩
          clear HE
          go_wp2_with fail
          go_roundw
          case rel => exact ⟨j + 1, by go_num, by omega, HF, HB2⟩
          case measure => simp [intOf]; omega
    · have HF : Hd (R = true) := ⟨by rw [← HK.out]; exact ascB_end (by have := HN.out.1; omega)⟩
      have hge : ¬ ((j + 1 : Nat) : Int) < (len : Int) := by omega
      go_wp2_with fail
      go_ret
      exact ⟨by rw [HF.out]; rfl, HB.out⟩

end Go.Proofs.YtlididoalekeoaaGreatDoor
/- Contract: TabOk of the program. -/
namespace Go.Proofs.YtlididoalekeoaaGreatDoor
set_option maxRecDepth 4000
open Go.RowKit

theorem wtS_atI {α : Type} (f : α → Nat) {ls : List α} {k : Nat} {a : α} (h : ls[k]? = some a) : f a ≤ wtS f ls := by have := wtS_le f h; omega
theorem parts_wt {t : TabD} {B : Nat} (hw : wtTab t ≤ B) : ∀ (j : Nat) r, (partsL t)[j]? = some r → wtRec r ≤ B := by
  intro j r h
  have h1 := List.mem_of_getElem? h
  unfold partsL at h1
  rw [List.mem_cons, List.mem_append] at h1
  rcases h1 with rfl | h1 | h1
  · have h0 : wtRec (phaseR t.phase) = 0 := rfl
    omega
  · obtain ⟨a, ha, rfl⟩ := List.mem_map.1 h1
    obtain ⟨k, hk⟩ := List.mem_iff_getElem?.1 ha
    have h2 := wtS_atI wtRow hk
    have h3 : wtRec (rowR a) = wtRow a := rfl
    have h4 : wtTab t = wtS wtRow t.rows + wtS wtMark t.marks := rfl
    omega
  · obtain ⟨a, ha, rfl⟩ := List.mem_map.1 h1
    have h0 : wtRec (markR a) = 0 := rfl
    omega

set_option maxHeartbeats 4000000 in
theorem implTabOk_rd (cs : List Value) (a : TabD) (w : World) (h : RcTab w cs a) (hw : wtTab a ≤ 1048576) (T : Hd (AllAt w)) :
    Calls Tryz.prog 17 #[.agg cs.toArray] w fun e w' => e = .returned (.bool (tabOk a)) ∧ Below w.heap.size w w' := by
  obtain ⟨r, hr⟩ : ∃ r, tabOk a = r := ⟨_, rfl⟩
  have HQ : Hd (RcTab w cs a ∧ wtTab a ≤ 1048576) := ⟨h, hw⟩
  rw [hr]
  obtain ⟨l0, l1, l2⟩ := a
  simp only [RcTab] at h
  obtain ⟨x0, m0, d0, x2, m2, d2, rfl, r1, r2⟩ := h
  obtain ⟨k1, hk1⟩ : ∃ k, ascB ltRow l0 = k := ⟨_, rfl⟩
  obtain ⟨k2, hk2⟩ : ∃ k, ascB ltMark l2 = k := ⟨_, rfl⟩
  obtain ⟨k3, hk3⟩ : ∃ k, (partsL ⟨l0, l1, l2⟩).all recOk = k := ⟨_, rfl⟩
  have HK : Hd (ascB ltRow l0 = k1 ∧ ascB ltMark l2 = k2 ∧ (partsL ⟨l0, l1, l2⟩).all recOk = k3) := ⟨hk1, hk2, hk3⟩
  have hm : m0 ≤ 1048576 ∧ m2 ≤ 1048576 := by
    have h1 := wtS_len wtRow l0; have h2 := wtS_len wtMark l2; have h3 := (rdS_len r1).1; have h4 := (rdS_len r2).1
    have h5 : wtTab ⟨l0, l1, l2⟩ = wtS wtRow l0 + wtS wtMark l2 := rfl
    omega
  have HR : Hd (r = (decide (m0 ≤ 8) && k1 && k2 && k3)) := ⟨by
    rw [← hr, ← hk1, ← hk2, ← hk3, parts_ok, ← (rdS_len r1).1]
    unfold tabOk
    dsimp only
    cases decide (l0.length ≤ 8) <;> cases ascB ltRow l0 <;> cases ascB ltMark l2 <;> cases l0.all rOk <;> cases l2.all markOk <;> cases inB l1 0 7 <;> rfl⟩
  have HL : Hd (RcRowS w [.slice x0 m0 d0] l0 ∧ RcMarkS w [.slice x2 m2 d2] l2) := ⟨r1, r2⟩
  clear hw hr r1 r2 hk1 hk2 hk3
  obtain ⟨hm0, hm2⟩ := hm
  by_cases h8 : m0 ≤ 8
  rotate_left
  · have h9 : (8 : Int) < (m0 : Int) := by omega
    have HF : Hd (r = false) := ⟨by rw [HR.out, decide_eq_false h8]; rfl⟩
    clear HR
    go_enter Tryz.func17, Tryz.ntmps17
    go_wp2_with fail
    go_ret
    exact ⟨by rw [HF.out]; rfl, below_lit w _⟩
  have h9 : ¬ (8 : Int) < (m0 : Int) := by omega
  have HE : Hd (r = (k1 && k2 && k3)) := ⟨by rw [HR.out, decide_eq_true h8]; rfl⟩
  clear HR
  go_enter Tryz.func17, Tryz.ntmps17
  go_wp2_with fail
  refine (ascRow_any x0 m0 d0 l0 _ (rdRowS_ok.below (rcRowS_w HL.out.1) (below_lit w _)) (by omega)).mono ?_
  rintro e w1 ⟨rfl, hb⟩
  have KA : Hd (w1.heap[w.heap.size]? = some (.cells #[Value.slice x0 m0 d0, .int .i64 l1, .slice x2 m2 d2] 40 (0, 0))) := ⟨(hb.block _ (by simp)).trans (heap_alloc_new w _)⟩
  have B1 : Hd (Below w.heap.size w w1) := ⟨Below.next (below_lit w _) hb⟩
  rewrite [HK.out.1]
  have c2 := cellsA KA.out 2 rfl
  clear hb
  cases k1
  · go_wp2_with fail
    go_ret
    exact ⟨by rw [HE.out]; rfl, B1.out⟩
  go_wp2_with fail
  clear c2
  refine (ascMark_any x2 m2 d2 l2 _ (rdMarkS_ok.below (rcMarkS_w HL.out.2) B1.out) (by omega)).mono ?_
  rintro e w2 ⟨rfl, hb⟩
  have KA2 : Hd (w2.heap[w.heap.size]? = some (.cells #[Value.slice x0 m0 d0, .int .i64 l1, .slice x2 m2 d2] 40 (0, 0))) := ⟨(hb.block _ (block_lt KA.out)).trans KA.out⟩
  have B2 : Hd (Below w.heap.size w w2) := ⟨Below.next B1.out hb⟩
  rewrite [HK.out.2.1]
  clear hb KA B1
  have c0 := cellsA KA2.out 0 rfl
  have c1 := cellsA KA2.out 1 rfl
  have c2 := cellsA KA2.out 2 rfl
  cases k2
  · go_wp2_with fail
    go_ret
    exact ⟨by rw [HE.out]; rfl, B2.out⟩
  go_wp2_with fail
  clear c0 c1 c2 KA2
  refine (partsOf_rd _ ⟨l0, l1, l2⟩ _ (rcTab_ok.below HQ.out.1 B2.out) (by have := HQ.out.2; omega)).mono ?_
  rintro e w3 ⟨⟨ya, yn, yc, rfl, hP⟩, hb⟩
  have HP : Hd (RcRecL w3 [.slice ya yn yc] (partsL ⟨l0, l1, l2⟩)) := ⟨hP⟩
  have B3 : Hd (Below w.heap.size w w3) := ⟨Below.next B2.out hb⟩
  clear hP hb B2
  go_wp2_with fail
  refine (containsRec_any ya yn yc (partsL ⟨l0, l1, l2⟩) _ HP.out (parts_wt HQ.out.2) ⟨T.out.below B3.out⟩).mono ?_
  rintro e w4 ⟨rfl, hb⟩
  rewrite [HK.out.2.2]
  have B4 : Hd (Below w.heap.size w w4) := ⟨Below.next B3.out hb⟩
  clear hb B3 HP
  go_wp2_with fail
  go_ret
  exact ⟨by rw [HE.out]; cases k3 <;> rfl, B4.out⟩

end Go.Proofs.YtlididoalekeoaaGreatDoor
/- StoreOk of the program. -/
namespace Go.Proofs.YtlididoalekeoaaGreatDoor
set_option maxRecDepth 4000
open Go.RowKit

theorem rdStore_lens {w : World} {a : StoreD} {x0 x1 : Option Addr} {m0 d0 m1 d1 : Nat} {f b : Value} (h : RdDev w [.slice x0 m0 d0, .slice x1 m1 d1, f, b] a.d) : a.d.secs.length = m0 ∧ a.d.cache.length = m1 ∧ m1 ≤ 9223372036854775807 := by
  obtain ⟨y0, n0, e0, y1, n1, e1, e, r0, r1⟩ := h
  simp only [List.cons.injEq, Value.slice.injEq, and_true] at e
  obtain ⟨⟨rfl, rfl, rfl⟩, ⟨rfl, rfl, rfl⟩, _⟩ := e
  exact ⟨(rdS_len r0).1, (rdS_len r1).1, by have := (rdS_len r1).2; unfold maxLen at this; exact this⟩

set_option maxHeartbeats 8000000 in
theorem implStoreOk_rd (cs : List Value) (a : StoreD) (w : World) (h : RcStore w cs a) (hw : wtStore a ≤ 1048576) (T : Hd (AllAt w)) :
    Calls Tryz.prog 7 #[.agg cs.toArray] w fun e w' => e = .returned (.bool (storeOk a)) ∧ Below w.heap.size w w' := by
  obtain ⟨r, hr⟩ : ∃ r, storeOk a = r := ⟨_, rfl⟩
  have HR : Hd (storeOk a = r) := ⟨hr⟩
  rw [hr]
  clear hr
  simp only [RcStore] at h
  obtain ⟨x0, m0, d0, x1, m1, d1, x4, m4, d4, x6, m6, d6, rfl, r0, r4⟩ := h
  have HL := rdStore_lens r0
  have HW : Hd (wtTab a.t ≤ 1048576 ∧ a.d.secs.length = m0 ∧ a.d.cache.length = m1) := ⟨by unfold wtStore at hw; omega, HL.1, HL.2.1⟩
  have hm1 := HL.2.2
  clear hw HL
  obtain ⟨ok1, hok1⟩ : ∃ x, devOk a.d = x := ⟨_, rfl⟩
  obtain ⟨ok2, hok2⟩ : ∃ x, tabOk a.t = x := ⟨_, rfl⟩
  obtain ⟨fu, hfu⟩ : ∃ x, a.d.fuse = x := ⟨_, rfl⟩
  obtain ⟨dn, hdn⟩ : ∃ x, a.d.down = x := ⟨_, rfl⟩
  obtain ⟨ph, hph⟩ : ∃ x, a.t.phase = x := ⟨_, rfl⟩
  obtain ⟨ge, hge⟩ : ∃ x, a.gen = x := ⟨_, rfl⟩
  obtain ⟨pl, hpl⟩ : ∃ x, a.place = x := ⟨_, rfl⟩
  rw [hfu, hdn] at r0 ⊢
  rw [hph] at r4 ⊢
  rw [hge, hpl]
  have HO : Hd (devOk a.d = ok1 ∧ tabOk a.t = ok2 ∧ a.d.down = dn ∧ a.gen = ge ∧ a.place = pl) := ⟨hok1, hok2, hdn, hge, hpl⟩
  have R0 : Hd (RdDev w [.slice x0 m0 d0, .slice x1 m1 d1, .int .i64 fu, .bool dn] a.d) := ⟨r0⟩
  have R4 : Hd (RcTab w [.slice x4 m4 d4, .int .i64 ph, .slice x6 m6 d6] a.t) := ⟨r4⟩
  clear r0 r4 hok1 hok2 hfu hdn hph hge hpl
  go_enter Tryz.func7, Tryz.ntmps7
  go_wp2_with fail
  refine (implDevOk_rd _ a.d _ (rdDev_ok.below R0.out (below_lit w _))).mono ?_
  rintro e w1 ⟨rfl, hb⟩
  rewrite [HO.out.1]
  have K1 : Hd (w1.heap[w.heap.size]? = some (.cells #[.slice x0 m0 d0, .slice x1 m1 d1, .int .i64 fu, .bool dn, .slice x4 m4 d4, .int .i64 ph, .slice x6 m6 d6, .int .i64 ge, .int .i64 pl] 42 (0, 0))) := ⟨(hb.block _ (by simp)).trans (heap_alloc_new w _)⟩
  have B1 : Hd (Below w.heap.size w w1) := ⟨Below.next (below_lit w _) hb⟩
  clear hb
  cases ok1
  · obtain rfl : r = false := by rw [← HR.out]; exact storeOk_dev HO.out.1
    go_wp2_with fail
    go_ret
    exact ⟨rfl, B1.out⟩
  have c0 := cellsA K1.out 0 rfl
  by_cases h62 : ¬ m0 = 62
  · obtain rfl : r = false := by rw [← HR.out]; exact storeOk_secs (by rw [HW.out.2.1]; exact h62)
    have h62' : ((m0 : Int) != 62) = true := by simp; omega
    go_wp2_with fail
    go_ret
    exact ⟨rfl, B1.out⟩
  obtain rfl : m0 = 62 := Decidable.of_not_not h62
  clear h62
  have c1 := cellsA K1.out 1 rfl
  by_cases hcd : 0 < m1 ∧ dn = false
  · obtain ⟨hc, rfl⟩ := hcd
    obtain rfl : r = false := by rw [← HR.out]; exact storeOk_cache (by rw [HW.out.2.2]; omega) HO.out.2.2.1
    have c3 := cellsA K1.out 3 rfl
    have hcI : (0 : Int) < (m1 : Int) := by omega
    go_wp2_with fail
    go_ret
    exact ⟨rfl, B1.out⟩
  have HR2 : Hd ((ok2 && inB ge 1 60000 && inB pl 0 30) = r) := ⟨by
    rw [← HR.out, storeOk_rest HO.out.1 HW.out.2.1 (by
      by_cases h0 : m1 = 0
      · exact .inl (by rw [HW.out.2.2]; exact h0)
      · exact .inr (by rw [HO.out.2.2.1]; cases dn <;> simp_all <;> omega)), HO.out.2.1, HO.out.2.2.2.1, HO.out.2.2.2.2]⟩
  have c3 := cellsA K1.out 3 rfl
  have c4 := cellsA K1.out 4 rfl
  have c5 := cellsA K1.out 5 rfl
  have c6 := cellsA K1.out 6 rfl
  have HT : Hd (∀ w', Below w1.heap.size w1 w' → Calls Tryz.prog 17 #[.agg #[.slice x4 m4 d4, .int .i64 ph, .slice x6 m6 d6]] w' fun e w' => e = .returned (.bool ok2) ∧ Below w1.heap.size w1 w') := ⟨fun w' hb => by
    have hB := Below.next B1.out hb
    refine (implTabOk_rd [.slice x4 m4 d4, .int .i64 ph, .slice x6 m6 d6] a.t w' (rcTab_ok.below R4.out hB) HW.out.1 ⟨T.out.below hB⟩).mono ?_
    rintro e w9 ⟨rfl, hb9⟩
    exact ⟨by rw [HO.out.2.1], Below.next hb hb9⟩⟩
  by_cases hc : 0 < m1
  · obtain rfl : dn = true := by cases dn <;> simp_all
    have hcI : (0 : Int) < (m1 : Int) := by omega
    go_wp2_with fail
    refine (HT.out _ (Below.refl _ _)).mono ?_
    rintro e w2 ⟨rfl, hb2⟩
    have K2 : Hd (w2.heap[w.heap.size]? = some (.cells #[.slice x0 62 d0, .slice x1 m1 d1, .int .i64 fu, .bool true, .slice x4 m4 d4, .int .i64 ph, .slice x6 m6 d6, .int .i64 ge, .int .i64 pl] 42 (0, 0))) := ⟨(hb2.block _ (lt_of_block K1.out)).trans K1.out⟩
    have B2 : Hd (Below w.heap.size w w2) := ⟨Below.next B1.out hb2⟩
    clear hb2 c0 c1 c3 c4 c5 c6 HT K1 B1 R0 R4 HO HW
    cases ok2
    · obtain rfl : r = false := by rw [← HR2.out]; rfl
      go_wp2_with fail
      go_ret
      exact ⟨rfl, B2.out⟩
    have k7 := cellsA K2.out 7 rfl
    go_wp2_with fail
    refine (isGen_any ge _).mono ?_
    rintro e w3 ⟨rfl, rfl⟩
    obtain ⟨ig, hig⟩ : ∃ x, inB ge 1 60000 = x := ⟨_, rfl⟩
    have HR3 : Hd ((true && ig && inB pl 0 30) = r) := ⟨by rw [← hig]; exact HR2.out⟩
    rw [hig]
    clear hig HR2
    cases ig
    · obtain rfl : r = false := by rw [← HR3.out]; rfl
      go_wp2_with fail
      go_ret
      exact ⟨rfl, B2.out⟩
    have k8 := cellsA K2.out 8 rfl
    go_wp2_with fail
    refine (isPlace_any pl _).mono ?_
    rintro e w4 ⟨rfl, rfl⟩
    obtain ⟨ip, hip⟩ : ∃ x, inB pl 0 30 = x := ⟨_, rfl⟩
    obtain rfl : ip = r := by rw [← HR3.out, hip]; rfl
    rw [hip]
    clear hip HR3
    go_wp2_with fail
    go_ret
    exact ⟨rfl, B2.out⟩
  · have hcI : ¬ (0 : Int) < (m1 : Int) := by omega
    go_wp2_with fail
    refine (HT.out _ (Below.refl _ _)).mono ?_
    rintro e w2 ⟨rfl, hb2⟩
    have K2 : Hd (w2.heap[w.heap.size]? = some (.cells #[.slice x0 62 d0, .slice x1 m1 d1, .int .i64 fu, .bool dn, .slice x4 m4 d4, .int .i64 ph, .slice x6 m6 d6, .int .i64 ge, .int .i64 pl] 42 (0, 0))) := ⟨(hb2.block _ (lt_of_block K1.out)).trans K1.out⟩
    have B2 : Hd (Below w.heap.size w w2) := ⟨Below.next B1.out hb2⟩
    clear hb2 c0 c1 c3 c4 c5 c6 HT K1 B1 R0 R4 HO HW
    cases ok2
    · obtain rfl : r = false := by rw [← HR2.out]; rfl
      go_wp2_with fail
      go_ret
      exact ⟨rfl, B2.out⟩
    have k7 := cellsA K2.out 7 rfl
    go_wp2_with fail
    refine (isGen_any ge _).mono ?_
    rintro e w3 ⟨rfl, rfl⟩
    obtain ⟨ig, hig⟩ : ∃ x, inB ge 1 60000 = x := ⟨_, rfl⟩
    have HR3 : Hd ((true && ig && inB pl 0 30) = r) := ⟨by rw [← hig]; exact HR2.out⟩
    rw [hig]
    clear hig HR2
    cases ig
    · obtain rfl : r = false := by rw [← HR3.out]; rfl
      go_wp2_with fail
      go_ret
      exact ⟨rfl, B2.out⟩
    have k8 := cellsA K2.out 8 rfl
    go_wp2_with fail
    refine (isPlace_any pl _).mono ?_
    rintro e w4 ⟨rfl, rfl⟩
    obtain ⟨ip, hip⟩ : ∃ x, inB pl 0 30 = x := ⟨_, rfl⟩
    obtain rfl : ip = r := by rw [← HR3.out, hip]; rfl
    rw [hip]
    clear hip HR3
    go_wp2_with fail
    go_ret
    exact ⟨rfl, B2.out⟩

end Go.Proofs.YtlididoalekeoaaGreatDoor
/- The specification: whether a device is right. -/
namespace Go.Proofs.YtlididoalekeoaaGreatDoor
set_option maxRecDepth 4000
open Go.RowKit

theorem inB_is (x lo hi : Int) : inB x lo hi = decide (lo ≤ x ∧ x ≤ hi) := by
  unfold inB
  rw [Bool.decide_and]
theorem l1In_is {x lo hi : Int} {V : Bool} (h : inB x lo hi = V) (w : World) : Calls Tryz.prog 13 #[.int .i64 x, .int .i64 lo, .int .i64 hi] w fun e w' => e = .returned (.bool V) ∧ w' = w := (l1In_any x lo hi w).mono (by rintro e w' ⟨rfl, rfl⟩; exact ⟨by rw [h], rfl⟩)
theorem wrOk_is (m : Nat) (x : WrD) : wrOk m x = (inB x.n 0 ((m : Int) - 1) && decide (x.b.length ≤ 120)) := by
  rw [inB_is]; rfl

set_option maxHeartbeats 1000000 in
theorem specDevOk_rd (cs : List Value) (d : DevD) (w : World) (h : RdDev w cs d) :
    Calls Tryz.prog 11 #[.agg cs.toArray] w fun e w' => e = .returned (.bool (devOk d)) ∧ Below w.heap.size w w' := by
  obtain ⟨x0, m0, d0, x1, m1, d1, rfl, r0, r1⟩ := h
  obtain ⟨f, hf⟩ : ∃ f, d.fuse = f := ⟨_, rfl⟩
  obtain ⟨b, hb⟩ : ∃ b, d.down = b := ⟨_, rfl⟩
  replace r0 := rdByteSS_parts r0
  replace r1 := rdWrS_parts r1
  have hok := devOk_is d r0.2.1 r1.2.1
  rw [hf] at hok ⊢
  rw [hb]
  have hm0 : m0 ≤ 9223372036854775807 := by have := r0.1; unfold maxLen at this; exact this
  have hm1 : m1 ≤ 9223372036854775807 := by have := r1.1; unfold maxLen at this; exact this
  have HL : Hd (d.secs.length = m0 ∧ d.cache.length = m1) := ⟨r0.2.1, r1.2.1⟩
  have HR0 : Hd (d.secs = [] ∨ ∃ b off, x0 = some ⟨b, off, none⟩ ∧ ∀ j a, d.secs[j]? = some a → ∃ c, c.length = 1 ∧ RdB w c a ∧ ∀ i v, c[i]? = some v → w.cell? ⟨b, off + j * 1 + i, none⟩ = some v) := ⟨r0.2.2⟩
  have HR1 : Hd (d.cache = [] ∨ ∃ b off, x1 = some ⟨b, off, none⟩ ∧ ∀ j a, d.cache[j]? = some a → ∃ c, c.length = 2 ∧ RdWr w c a ∧ ∀ i v, c[i]? = some v → w.cell? ⟨b, off + j * 2 + i, none⟩ = some v) := ⟨r1.2.2⟩
  obtain ⟨R, hR⟩ : ∃ R, devOk d = R := ⟨_, rfl⟩
  rw [hR]
  have HOK : Hd (R = (d.secs.all secOk && d.cache.all (wrOk m0) && decide (1 ≤ m0 ∧ m0 ≤ 64) && decide (m1 ≤ 40) && decide (-1 ≤ f ∧ f ≤ 1000))) := ⟨by rw [← hR]; exact hok⟩
  have hwr : wrap64 ((m0 : Int) - 1) = (m0 : Int) - 1 := wrap64_in (by omega) (by omega)
  clear r0 r1 hok hf hb hR
  go_enter Tryz.func11, Tryz.ntmps11
  go_wp2_with fail
  have HA : Hd (Below w.heap.size w (w.alloc (.cells #[.slice x0 m0 d0, .slice x1 m1 d1, .int .i64 f, .bool b] 36)) ∧ (w.alloc (.cells #[.slice x0 m0 d0, .slice x1 m1 d1, .int .i64 f, .bool b] 36)).heap[w.heap.size]? = some (.cells #[.slice x0 m0 d0, .slice x1 m1 d1, .int .i64 f, .bool b] 36 (0, 0))) := ⟨below_lit w _, heap_alloc_new w _⟩
  generalize w.alloc (.cells #[.slice x0 m0 d0, .slice x1 m1 d1, .int .i64 f, .bool b] 36) = wa at *
  go_loop [3] (fun i => ∃ k : Nat, k ≤ m0 ∧ i = .int .i64 k ∧ Hd ((d.secs.take k).all secOk = true)) (fun i => m0 - (intOf i).toNat)
  case atStart => exact ⟨0, Nat.zero_le _, rfl, ⟨rfl⟩⟩
  case round =>
    obtain ⟨k, hk, rfl, HK⟩ := hrel
    have c0 := cellsA HA.out.2 0 rfl
    by_cases hlt : k < m0
    · have hlt' : (k : Int) < (m0 : Int) := by omega
      have h0 : (0 : Int) ≤ (k : Int) := by omega
      obtain ⟨b0, o0, hx0, G⟩ : ∃ b0 o0, x0 = some ⟨b0, o0, none⟩ ∧ ∀ j a, d.secs[j]? = some a → ∃ c, c.length = 1 ∧ RdB w c a ∧ ∀ i v, c[i]? = some v → w.cell? ⟨b0, o0 + j * 1 + i, none⟩ = some v := by
        rcases HR0.out with h | h
        · have := HL.out.1; rw [h] at this; simp at this; omega
        · exact h
      subst hx0
      obtain ⟨a, ha⟩ := get_some (l := d.secs) (j := k) (by rw [HL.out.1]; exact hlt)
      obtain ⟨c, hcn, hR, hcell⟩ := G k a ha
      obtain ⟨y0, n0, e0, rfl, hm, hr⟩ := hR
      have t0 := cell_below (hcell 0 _ rfl) HA.out.1
      simp only [Nat.mul_one, Nat.add_zero] at t0
      by_cases hs : n0 ≤ 120
      · have hs' : ¬ (n0 : Int) > 120 := by omega
        have HK1 : Hd ((d.secs.take (k + 1)).all secOk = true) := ⟨all_take secOk _ k ha HK.out (decide_eq_true (by rw [hr.1]; exact hs))⟩
        clear hcell hcn ha hm hr HK G
        go_wp2
        go_round
        case rel => exact ⟨k + 1, by omega, by go_num, HK1⟩
        case measure => simp [intOf]; omega
      · have hs' : (n0 : Int) > 120 := by omega
        have HF : Hd (R = false) := ⟨by rw [HOK.out, all_not secOk ha (decide_eq_false (by rw [hr.1]; exact hs))]; rfl⟩
        clear hcell hcn ha hm hr HK G
        go_wp2
        go_ret
        exact ⟨by rw [HF.out]; rfl, HA.out.1⟩
    · have HK1 : Hd (d.secs.all secOk = true) := ⟨by have h7 := HK.out; rw [List.take_of_length_le (by have := HL.out.1; omega)] at h7; exact h7⟩
      clear HK
      go_wp2_with fail
      clear c0
      go_loopw [4] (fun i wr => ∃ k : Nat, k ≤ m1 ∧ i = .int .i64 k ∧ Hd ((d.cache.take k).all (wrOk m0) = true) ∧ Hd (Below w.heap.size w wr ∧ wr.heap[w.heap.size]? = some (.cells #[.slice x0 m0 d0, .slice x1 m1 d1, .int .i64 f, .bool b] 36 (0, 0)))) (fun i _ => m1 - (intOf i).toNat)
      case atStart => exact ⟨0, Nat.zero_le _, rfl, ⟨rfl⟩, HA⟩
      case round =>
        obtain ⟨k, hk, rfl, HK, HW⟩ := hrel
        clear HA
        have c0 := cellsA HW.out.2 0 rfl
        have c1 := cellsA HW.out.2 1 rfl
        by_cases hlt : k < m1
        · have hlt' : (k : Int) < (m1 : Int) := by omega
          have h0 : (0 : Int) ≤ (k : Int) := by omega
          obtain ⟨b1, o1, hx1, G⟩ : ∃ b1 o1, x1 = some ⟨b1, o1, none⟩ ∧ ∀ j a, d.cache[j]? = some a → ∃ c, c.length = 2 ∧ RdWr w c a ∧ ∀ i v, c[i]? = some v → w.cell? ⟨b1, o1 + j * 2 + i, none⟩ = some v := by
            rcases HR1.out with h | h
            · have := HL.out.2; rw [h] at this; simp at this; omega
            · exact h
          subst hx1
          obtain ⟨a, ha⟩ := get_some (l := d.cache) (j := k) (by rw [HL.out.2]; exact hlt)
          obtain ⟨c, hcn, hR, hcell⟩ := G k a ha
          obtain ⟨y1, n1, e1, rfl, hr⟩ := hR
          have t0 := cell_below (hcell 0 _ rfl) HW.out.1
          have t1 := cell_below (hcell 1 _ rfl) HW.out.1
          simp only [Nat.add_zero] at t0
          have hwo := wrOk_is m0 a
          rw [(rdB_parts hr).2.1] at hwo
          obtain ⟨nn, hnn⟩ : ∃ nn, a.n = nn := ⟨_, rfl⟩
          rw [hnn] at t0 hwo
          obtain ⟨V, hV⟩ : ∃ V, inB nn 0 ((m0 : Int) - 1) = V := ⟨_, rfl⟩
          rw [hV] at hwo
          have HWO : Hd (wrOk m0 a = (V && decide (n1 ≤ 120)) ∧ d.cache[k]? = some a) := ⟨hwo, ha⟩
          have HV : Hd (inB nn 0 ((m0 : Int) - 1) = V) := ⟨hV⟩
          clear hcell hcn ha hr hnn G hwo hV
          cases V with
          | false =>
            have HF : Hd (R = false) := ⟨by rw [HOK.out, all_not (wrOk m0) HWO.out.2 (by rw [HWO.out.1]; rfl)]; simp⟩
            go_wp2_with fail
            go_quiet ((go_at_call 13; exact Calls.quiet_of_same (l1In_is HV.out _)))
            go_wp2_with fail
            go_ret
            exact ⟨by rw [HF.out]; rfl, HW.out.1.trans (below_drewN' _ _ _)⟩
          | true =>
            by_cases hs : (n1 : Int) > 120
            · have hs' : decide ((n1 : Int) > 120) = true := decide_eq_true hs
              have HF : Hd (R = false) := ⟨by rw [HOK.out, all_not (wrOk m0) HWO.out.2 (by rw [HWO.out.1, decide_eq_false (by omega : ¬ n1 ≤ 120)]; rfl)]; simp⟩
              go_wp2_with fail
              go_quiet ((go_at_call 13; exact Calls.quiet_of_same (l1In_is HV.out _)))
              go_wp2_with fail
              go_ret
              exact ⟨by rw [HF.out]; rfl, HW.out.1.trans (below_drewN' _ _ _)⟩
            · have hs' : decide ((n1 : Int) > 120) = false := decide_eq_false hs
              have HK2 : Hd ((d.cache.take (k + 1)).all (wrOk m0) = true) := ⟨all_take (wrOk m0) _ k HWO.out.2 HK.out (by rw [HWO.out.1, decide_eq_true (by omega : n1 ≤ 120)]; rfl)⟩
              go_wp2_with fail
              go_quiet ((go_at_call 13; exact Calls.quiet_of_same (l1In_is HV.out _)))
              have HW1 : Hd (∀ N, Below w.heap.size w (wr.drewN N) ∧ (wr.drewN N).heap[w.heap.size]? = some (.cells #[.slice x0 m0 d0, .slice (some ⟨b1, o1, none⟩) m1 d1, .int .i64 f, .bool b] 36 (0, 0))) := ⟨fun N => ⟨HW.out.1.trans (below_drewN' _ _ _), HW.out.2⟩⟩
              clear HK HWO HV HW c0 c1 t0 t1
              go_wp2_with fail
              go_roundw
              case rel => exact ⟨k + 1, by omega, by go_num, HK2, ⟨HW1.out _⟩⟩
              case measure => simp [intOf]; omega
        · have HK2 : Hd (d.cache.all (wrOk m0) = true) := ⟨by have h7 := HK.out; rw [List.take_of_length_le (by have := HL.out.2; omega)] at h7; exact h7⟩
          have HOK2 : Hd (R = (decide (1 ≤ m0 ∧ m0 ≤ 64) && decide (m1 ≤ 40) && decide (-1 ≤ f ∧ f ≤ 1000))) := ⟨by rw [HOK.out, HK1.out, HK2.out]; simp⟩
          clear HK HK1 HK2 HOK
          obtain ⟨V1, hV1⟩ : ∃ V, inB (m0 : Int) 1 64 = V := ⟨_, rfl⟩
          have HV1 : Hd (inB (m0 : Int) 1 64 = V1 ∧ decide (1 ≤ m0 ∧ m0 ≤ 64) = V1) := ⟨hV1, by rw [← hV1, inB_is]; exact decide_eq_decide.2 ⟨fun h => ⟨by omega, by omega⟩, fun h => ⟨by omega, by omega⟩⟩⟩
          clear hV1
          have c2 := cellsA HW.out.2 2 rfl
          go_wp2_with fail
          refine (l1In_is HV1.out.1 _).mono ?_
          rintro e w' ⟨rfl, hw⟩
          replace hw := hw.symm
          subst hw
          cases V1 with
          | false =>
            have HF : Hd (R = false) := ⟨by rw [HOK2.out, HV1.out.2]; simp⟩
            go_wp2_with fail
            go_ret
            exact ⟨by rw [HF.out]; rfl, HW.out.1⟩
          | true =>
            by_cases q40 : (m1 : Int) ≤ 40
            · have q40' : decide ((m1 : Int) ≤ 40) = true := decide_eq_true q40
              obtain ⟨V2, hV2⟩ : ∃ V, inB f (-1) 1000 = V := ⟨_, rfl⟩
              have HV2 : Hd (inB f (-1) 1000 = V2) := ⟨hV2⟩
              have HF : Hd (R = V2) := ⟨by rw [HOK2.out, HV1.out.2, decide_eq_true (by omega : m1 ≤ 40), ← hV2, inB_is]; simp⟩
              clear hV2
              go_wp2_with fail
              refine (l1In_is HV2.out _).mono ?_
              rintro e w' ⟨rfl, hw⟩
              replace hw := hw.symm
              subst hw
              go_wp2_with fail
              go_ret
              exact ⟨by rw [HF.out]; rfl, HW.out.1⟩
            · have q40' : decide ((m1 : Int) ≤ 40) = false := decide_eq_false q40
              have HF : Hd (R = false) := ⟨by rw [HOK2.out, decide_eq_false (by omega : ¬ m1 ≤ 40)]; simp⟩
              go_wp2_with fail
              go_ret
              exact ⟨by rw [HF.out]; rfl, HW.out.1⟩

end Go.Proofs.YtlididoalekeoaaGreatDoor
/- Plain facts on lists that are gone through, each held against the one ahead of it. -/
namespace Go.Proofs.YtlididoalekeoaaGreatDoor
set_option maxRecDepth 4000
open Go.RowKit

def chk {α : Type} (ok : α → Bool) (lt : α → α → Bool) : Option α → List α → Bool
  | _, [] => true
  | none, a :: r => ok a && chk ok lt (some a) r
  | some b, a :: r => ok a && lt b a && chk ok lt (some a) r
def prevOf {α : Type} (l : List α) (k : Nat) : Option α := if k = 0 then none else l[k - 1]?
theorem chk_end {α : Type} {ok : α → Bool} {lt : α → α → Bool} {l : List α} {k : Nat} (p : Option α) (h : l.length ≤ k) : chk ok lt p (l.drop k) = true := by
  rw [List.drop_of_length_le h]; cases p <;> rfl
theorem chk_zero {α : Type} {ok : α → Bool} {lt : α → α → Bool} {l : List α} {a : α} (h : l[0]? = some a) : chk ok lt (prevOf l 0) (l.drop 0) = (ok a && chk ok lt (prevOf l 1) (l.drop 1)) := by
  cases l with
  | nil => simp at h
  | cons b r =>
    simp at h
    subst h
    rfl
theorem chk_succ {α : Type} {ok : α → Bool} {lt : α → α → Bool} {l : List α} {j : Nat} {a b : α} (hb : l[j]? = some b) (h : l[j + 1]? = some a) : chk ok lt (prevOf l (j + 1)) (l.drop (j + 1)) = (ok a && lt b a && chk ok lt (prevOf l (j + 2)) (l.drop (j + 2))) := by
  obtain ⟨h1, rfl⟩ := List.getElem?_eq_some_iff.1 h
  rw [List.drop_eq_getElem_cons h1]
  show chk ok lt l[j]? _ = (_ && chk ok lt l[j + 1]? _)
  rw [hb, h]
  rfl
theorem chk_all {α : Type} {ok : α → Bool} {lt : α → α → Bool} : ∀ (l : List α), chk ok lt none l = (ascB lt l && l.all ok)
  | [] => rfl
  | a :: r => by
    rw [chk, List.all_cons]
    induction r generalizing a with
    | nil => simp [chk, ascB]
    | cons b s ih =>
      have h := ih b
      rw [chk, List.all_cons, ascB]
      generalize chk ok lt (some b) s = c at *
      generalize ascB lt (b :: s) = d at *
      generalize s.all ok = e at *
      revert h
      cases ok a <;> cases ok b <;> cases lt a b <;> cases c <;> cases d <;> cases e <;> simp
theorem chk_start {α : Type} {ok : α → Bool} {lt : α → α → Bool} (l : List α) : chk ok lt (prevOf l 0) (l.drop 0) = (ascB lt l && l.all ok) := chk_all l

end Go.Proofs.YtlididoalekeoaaGreatDoor
/- Contract: a right mark, in the specification. -/
namespace Go.Proofs.YtlididoalekeoaaGreatDoor
set_option maxRecDepth 4000
open Go.RowKit

set_option maxHeartbeats 2000000 in
theorem specMark_rd (cs : List Value) (a : MarkD) (w : World) (h : RdMark w cs a) :
    Calls Tryz.prog 27 #[.agg cs.toArray] w fun e w' => e = .returned (.bool (markOk a)) ∧ Below w.heap.size w w' := by
  obtain ⟨l0, l1, l2⟩ := a
  simp only [RdMark] at h
  subst h
  obtain ⟨r, hr⟩ : ∃ r, markOk ⟨l0, l1, l2⟩ = r := ⟨_, rfl⟩
  rw [hr]
  obtain ⟨b1, h1⟩ : ∃ b, inB l0 1 9 = b := ⟨_, rfl⟩
  obtain ⟨b2, h2⟩ : ∃ b, inB l1 0 65535 = b := ⟨_, rfl⟩
  obtain ⟨b3, h3⟩ : ∃ b, inB l2 0 6 = b := ⟨_, rfl⟩
  have HB : Hd (inB l0 1 9 = b1 ∧ inB l1 0 65535 = b2 ∧ inB l2 0 6 = b3) := ⟨h1, h2, h3⟩
  have HR : Hd (r = (b1 && b2 && b3)) := ⟨by rw [← hr, ← h1, ← h2, ← h3]; rfl⟩
  clear hr h1 h2 h3
  obtain ⟨W, hW⟩ : ∃ W, w.alloc (.cells #[.int .i64 l0, .int .i64 l1, .int .i64 l2] 70) = W := ⟨_, rfl⟩
  have B1 : Hd (Below w.heap.size w W) := ⟨by rw [← hW]; exact below_lit w _⟩
  have KA : W.heap[w.heap.size]? = some (.cells #[.int .i64 l0, .int .i64 l1, .int .i64 l2] 70 (0, 0)) := by rw [← hW]; exact heap_alloc_new w _
  have c0 := cellsA KA 0 rfl
  have c1 := cellsA KA 1 rfl
  have c2 := cellsA KA 2 rfl
  go_enter Tryz.func27, Tryz.ntmps27
  go_wp2_with fail
  refine (l1In_any l0 1 9 _).mono ?_
  rintro e w1 ⟨rfl, rfl⟩
  rewrite [HB.out.1]
  cases b1
  · go_wp2_with fail
    go_ret
    exact ⟨by rw [HR.out]; rfl, B1.out⟩
  go_wp2_with fail
  refine (l1Word_any l1 _).mono ?_
  rintro e w1 ⟨rfl, rfl⟩
  rewrite [HB.out.2.1]
  cases b2
  · go_wp2_with fail
    go_ret
    exact ⟨by rw [HR.out]; rfl, B1.out⟩
  go_wp2_with fail
  refine (l1In_any l2 0 6 _).mono ?_
  rintro e w1 ⟨rfl, rfl⟩
  rewrite [HB.out.2.2]
  go_wp2_with fail
  go_ret
  exact ⟨by rw [HR.out]; cases b3 <;> rfl, B1.out⟩

end Go.Proofs.YtlididoalekeoaaGreatDoor
