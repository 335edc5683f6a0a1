/- The specification: PutRow. -/
import Derived.Test.YtbeiocngiippgabDoorPutCS
import Derived.Test.YtbeiocngiippgabDoorRecS
import Derived.Deep.RegionHeldLaw
namespace Go.Proofs.YtbeiocngiippgabDoor
set_option maxRecDepth 4000
open Go.RowKit

theorem own_emp_at (X : World) (q : Nat) (hq : q = X.heap.size) : Own (X.alloc (.cells #[] 5)) q 0 [] := by subst hq; exact own_emp X
theorem cellAt_ne {w : World} {ao : Option Addr} {n c q y : Nat} {bs : List UInt8} (h : CellAt w ao n c bs) (hy : ao = some ⟨y, 0, none⟩) (hq : w.heap.size ≤ q) : y ≠ q := by
  rcases h with ⟨h, _⟩ | ⟨x, h1, _, h3⟩
  · rw [h] at hy; cases hy
  · rw [h1] at hy
    simp only [Option.some.injEq, Addr.mk.injEq, and_true] at hy
    have := h3.lt
    omega

theorem specBit_any (b : Bool) (w : World) : Calls Tryd.prog 28 #[.bool b] w fun e w' => e = .returned (.int .u8 ((bitB b).toNat : Int)) ∧ w' = w := by
  cases b with
  | false =>
    go_enter Tryd.func28, Tryd.ntmps28
    go_wp2_with fail
    go_ret
    exact ⟨rfl, rfl⟩
  | true =>
    go_enter Tryd.func28, Tryd.ntmps28
    go_wp2_with fail
    go_ret
    exact ⟨rfl, rfl⟩

set_option maxHeartbeats 16000000 in
theorem specPutRow_any (q0 n0 c0 : Nat) (bs : List UInt8) (cs : List Value) (r : RowD) (w : World) (hb : Lies w q0 n0 bs) (hc0 : n0 ≤ c0) (h : RcRow w cs r) (hw : wtRow r ≤ 1048576) (hl : n0 ≤ 1900000) :
    Calls Tryd.prog 7 #[.slice (some ⟨q0, 0, none⟩) n0 c0, .agg cs.toArray] w fun e w' => ∃ g k, e = .returned (.slice (some ⟨g, 0, none⟩) (putRowB bs r).length k) ∧ w.heap.size ≤ g ∧ Own w' g k (putRowB bs r) ∧ Below w.heap.size w w' := by
  obtain ⟨l0, l1, l2, l3, l4, l5, l6⟩ := r
  have HA : Hd (RcRow w cs ⟨l0, l1, l2, l3, l4, l5, l6⟩) := ⟨h⟩
  simp only [RcRow] at h
  obtain ⟨x2, m2, d2, x4, m4, d4, rfl, _, r1, r3⟩ := h
  obtain ⟨_, _, _, q1, q2⟩ := r1
  simp only [List.cons.injEq, Value.slice.injEq, and_true, true_and] at q1
  obtain ⟨rfl, rfl, rfl⟩ := q1
  obtain ⟨_, _, _, q3, q4⟩ := r3
  simp only [List.cons.injEq, Value.slice.injEq, and_true, true_and] at q3
  obtain ⟨rfl, rfl, rfl⟩ := q3
  have k2 := (rdC_parts q2).2
  have k4 := (rdC_parts q4).2
  dsimp only at k2 k4
  have h2 := k2.size
  have h4 := k4.size
  have HWT : Hd (wtRow ⟨l0, l1, l2, l3, l4, l5, l6⟩ ≤ 1048576) := ⟨hw⟩
  simp only [wtRow, wtCell, wtB] at hw
  have HP : Hd (CellAt w x2 m2 d2 l2 ∧ CellAt w x4 m4 d4 l4 ∧ m2 ≤ 1048576 ∧ m4 ≤ 1048576 ∧ l0.size ≤ 1048576) := ⟨k2, k4, by omega, by omega, by omega⟩
  have HB : Hd (Lies w q0 n0 bs ∧ n0 ≤ c0 ∧ n0 ≤ 1900000) := ⟨hb, hc0, hl⟩
  clear q2 q4 k2 k4 h2 h4 hw hb hc0 hl
  obtain ⟨ok, hok⟩ : ∃ x, rOk ⟨l0, l1, l2, l3, l4, l5, l6⟩ = x := ⟨_, rfl⟩
  have HK : Hd (rOk ⟨l0, l1, l2, l3, l4, l5, l6⟩ = ok) := ⟨hok⟩
  clear hok
  obtain ⟨ol, hol⟩ : ∃ x, oldB l5 = x := ⟨_, rfl⟩
  have HOL : Hd (oldB l5 = ol) := ⟨hol⟩
  obtain ⟨ne, hne⟩ : ∃ x, newB l5 = x := ⟨_, rfl⟩
  have HNE : Hd (newB l5 = ne) := ⟨hne⟩
  obtain ⟨v, hv⟩ : ∃ v, IntKind.u8.wrap l5 = v := ⟨_, rfl⟩
  have HV : Hd (v = ((byB l5).toNat : Int)) := ⟨by rw [← hv, IntKind.wrap_u8]; exact byB_val l5⟩
  obtain ⟨u, hu⟩ : ∃ u : Int, ((bitB l6).toNat : Int) = u := ⟨_, rfl⟩
  have HU : Hd (((bitB l6).toNat : Int) = u) := ⟨hu⟩
  clear hu
  obtain ⟨H, hH⟩ : ∃ H, putText bs l0 ++ [byB l5, bitB l6] = H := ⟨_, rfl⟩
  have HH : Hd (putText bs l0 ++ [byB l5, bitB l6] = H ∧ H.length ≤ bs.length + 64) := ⟨hH, by rw [← hH]; have := putText_len bs l0; simp; omega⟩
  clear hH
  clear hol hne
  have F0 : Hd (Bx 32 w #[.string l0, .int .i64 l1, .slice x2 m2 d2, .int .i64 l3, .slice x4 m4 d4, .int .i64 l5, .bool l6] (w.alloc (.cells #[.string l0, .int .i64 l1, .slice x2 m2 d2, .int .i64 l3, .slice x4 m4 d4, .int .i64 l5, .bool l6] 32))) := ⟨Bx.new _ w _⟩
  go_enter Tryd.func7, Tryd.ntmps7
  have OE : Hd (Own ((w.alloc (.cells #[.string l0, .int .i64 l1, .slice x2 m2 d2, .int .i64 l3, .slice x4 m4 d4, .int .i64 l5, .bool l6] 32)).alloc (.cells #[] 5)) (w.heap.size + 1) 0 [] ∧ Below w.heap.size w ((w.alloc (.cells #[.string l0, .int .i64 l1, .slice x2 m2 d2, .int .i64 l3, .slice x4 m4 d4, .int .i64 l5, .bool l6] 32)).alloc (.cells #[] 5))) := ⟨own_emp_at _ _ (by simp), below_lit2 w _ _⟩
  go_wp2_with (at_builtin; refine wpList_app rfl (.tmp 6) (.tmp 7) rfl (w.heap.size + 1) (w.heap.size + 1) 0 0 [] bs rfl OE.out.1 rfl (Nat.le_refl _) (by simp) ⟨q0, 0, none⟩ n0 c0 rfl HB.out.1.size (map_cb_cell HB.out.1.size (fun j hj => cell_below (HB.out.1.cell j hj) OE.out.2)) (by have := HB.out.2.2; omega) ?_)
  intro g1 c1 v1 hO1 hG1 hA1 hP1
  have F1 : Hd (Bx 32 w #[.string l0, .int .i64 l1, .slice x2 m2 d2, .int .i64 l3, .slice x4 m4 d4, .int .i64 l5, .bool l6] v1) := ⟨⟨OE.out.2.grown hG1 (by simp; omega) (fun k e => by simp at e; omega), (hG1.block _ (by simp; omega) (by simp)).trans ((below_lit _ _).block w.heap.size (by simp) |>.trans (heap_alloc_new w _))⟩⟩
  have O1 : Hd (Own v1 g1 c1 bs ∧ w.heap.size + 1 ≤ g1 ∧ bs.length = n0) := ⟨by simpa using hO1, hP1, HB.out.1.size⟩
  clear hO1 hG1 hA1 hP1 F0 OE
  have cc0 := F1.out.cell 0 rfl
  have cc1 := F1.out.cell 1 rfl
  have cc2 := F1.out.cell 2 rfl
  have cc3 := F1.out.cell 3 rfl
  have cc4 := F1.out.cell 4 rfl
  have cc5 := F1.out.cell 5 rfl
  have cc6 := F1.out.cell 6 rfl
  go_wp2_with fail
  clear cc0 cc1 cc2 cc3 cc4 cc5 cc6
  refine (specRowOk_rd _ _ _ (rcRow_ok.below HA.out F1.out.bel) HWT.out).mono ?_
  rintro e v2 ⟨rfl, hB⟩
  rewrite [HK.out]
  have F2 : Hd (Bx 32 w #[.string l0, .int .i64 l1, .slice x2 m2 d2, .int .i64 l3, .slice x4 m4 d4, .int .i64 l5, .bool l6] v2) := ⟨F1.out.below hB⟩
  have O2 : Hd (Own v2 g1 c1 bs ∧ w.heap.size + 1 ≤ g1 ∧ bs.length = n0) := ⟨O1.out.1.below hB, O1.out.2⟩
  clear hB F1 O1
  cases ok with
  | false =>
    have HR : Hd (putRowB bs ⟨l0, l1, l2, l3, l4, l5, l6⟩ = bs) := ⟨if_pos HK.out⟩
    clear HH HV HU HOL HNE HK
    go_wp2_with fail
    go_ret
    exact ⟨g1, c1, by rw [HR.out, O2.out.2.2]; rfl, by have := O2.out.2.1; omega, by rw [HR.out]; exact O2.out.1, F2.out.bel⟩
  | true =>
    have HR : Hd (putRowB bs ⟨l0, l1, l2, l3, l4, l5, l6⟩ = if ne = true then putCellB (if ol = true then putCellB H l1 l2 else H) l3 l4 else if ol = true then putCellB H l1 l2 else H) := ⟨by
      unfold putRowB
      rw [if_neg (by rw [HK.out]; simp)]
      dsimp only
      rw [HOL.out, HNE.out, HH.out.1]⟩
    clear HK
    have KK : Hd (∀ w', Below v2.heap.size v2 w' → (w'.cell? ⟨w.heap.size, 0, none⟩ = some (.string l0) ∧ w'.cell? ⟨w.heap.size, 5, none⟩ = some (.int .i64 l5) ∧ w'.cell? ⟨w.heap.size, 6, none⟩ = some (.bool l6))) := ⟨fun w' hb => ⟨cell_below (F2.out.cell 0 rfl) hb, cell_below (F2.out.cell 5 rfl) hb, cell_below (F2.out.cell 6 rfl) hb⟩⟩
    have D0 : Hd (Below v2.heap.size v2 v2.drew) := ⟨(Below.refl _ v2).drew⟩
    have D1 : Hd (Below v2.heap.size v2 ((v2.alloc (.cells #[.int .u8 v, .int .u8 u] 5)).drew)) := ⟨(below_lit v2 _).drew⟩
    go_wp2_with fail
    go_region_held_law (fun w' => w'.cell? ⟨w.heap.size, 0, none⟩ = some (.string l0) ∧ w'.cell? ⟨w.heap.size, 5, none⟩ = some (.int .i64 l5) ∧ w'.cell? ⟨w.heap.size, 6, none⟩ = some (.bool l6)) (first | (with_reducible exact K3.out) | (with_reducible exact KK.out _ E3.out) | (with_reducible exact KK.out _ E2.out) | (with_reducible exact KK.out _ D1.out) | (with_reducible exact KK.out _ D0.out))
      (first
        | (go_at_call 28; refine (specBit_any l6 _).mono ?_; rintro e w9 ⟨rfl, hw⟩; replace hw := hw.symm; subst hw; rewrite [HU.out])
        | (go_at_call 27; refine (specPutText_any g1 0 n0 c1 bs l0 _ ?_ ?_ ?_ ?_ ?_).mono ?_; (have := HP.out.2.2.2.2; omega); exact O2.out.2.2; exact (fun j hj => (O2.out.1.below D0.out).cell O2.out.2.2 j hj); exact (O2.out.1.below D0.out).lt; (have := HB.out.2.2; omega); rintro e w2 ⟨g2, c2, rfl, hg, hO, hB⟩; have E2 : Hd (Below v2.heap.size v2 w2) := ⟨Below.next D0.out hB⟩; have P2 : Hd (Own w2 g2 c2 (putText bs l0) ∧ v2.heap.size ≤ g2 ∧ g2 < w2.heap.size) := ⟨hO, Nat.le_trans D0.out.size hg, hO.lt⟩; have E3 : Hd (Below v2.heap.size v2 (w2.alloc (.cells #[.int .u8 v, .int .u8 u] 5))) := ⟨Below.next E2.out (below_lit w2 _)⟩; clear hg hO hB)
        | (go_at_call 27; refine (specPutText_any g1 0 n0 c1 bs l0 _ ?_ ?_ ?_ ?_ ?_).mono ?_; (have := HP.out.2.2.2.2; omega); exact O2.out.2.2; exact (fun j hj => (O2.out.1.below D1.out).cell O2.out.2.2 j hj); exact (O2.out.1.below D1.out).lt; (have := HB.out.2.2; omega); rintro e w2 ⟨g2, c2, rfl, hg, hO, hB⟩; have E2 : Hd (Below v2.heap.size v2 w2) := ⟨Below.next D1.out hB⟩; have P2 : Hd (Own w2 g2 c2 (putText bs l0) ∧ v2.heap.size ≤ g2 ∧ g2 < w2.heap.size) := ⟨hO, Nat.le_trans D1.out.size hg, hO.lt⟩; have E3 : Hd (Below v2.heap.size v2 (w2.alloc (.cells #[.int .u8 v, .int .u8 u] 5))) := ⟨Below.next E2.out (below_lit w2 _)⟩; have LB : Hd (w2.heap[v2.heap.size]? = some (.cells #[.int .u8 v, .int .u8 u] 5 (0, 0))) := ⟨(hB.block v2.heap.size (by simp)).trans (heap_alloc_new v2 _)⟩; clear hg hO hB)
        | (refine step_app rfl (.tmp 16) (.tmp 23) rfl 0 g2 (putText bs l0).length c2 (putText bs l0) [byB l5, bitB l6] rfl (P2.out.1.below (below_lit w2 _)) rfl (Nat.zero_le _) (Nat.zero_le _) ⟨w2.heap.size, 0, none⟩ 2 2 rfl rfl ?_ ?_ ?_; (intro j x hx; rw [show ([byB l5, bitB l6].map cb) = [Value.int .u8 v, Value.int .u8 u] from (by rw [HV.out, ← HU.out]; rfl)] at hx; exact (by rw [Addr.add_lit, Nat.zero_add]; exact cellsA (alloc_new w2 (.cells #[.int .u8 v, .int .u8 u] 5) rfl) j (by simpa using hx))); (have := putText_len bs l0; have h8 := HB.out.2.2; have h9 := HB.out.1.size; omega); intro g3 c3 w3 hO3 hG3 hA3 _; have P3 : Hd (Own w3 g3 c3 H ∧ w.heap.size + 1 ≤ g3 ∧ Bx 32 w #[.string l0, .int .i64 l1, .slice x2 m2 d2, .int .i64 l3, .slice x4 m4 d4, .int .i64 l5, .bool l6] w3) := (⟨by rw [← HH.out.1]; exact hO3, by (rcases hA3 with h | h <;> rw [h]); (· have h7 := P2.out.2.1; have h8 := F2.out.bel.size; have h9 := lt_of_block F2.out.box; omega); (· have h8 := lt_of_block F2.out.box; have h9 := E2.out.size; simp <;> omega), ⟨(Below.trans F2.out.bel (Below.mono E3.out F2.out.bel.size)).grown hG3 (by have := (Below.trans F2.out.bel (Below.mono E3.out F2.out.bel.size)).size; exact this) (fun k e => by simp at e; have := P2.out.2.1; have := F2.out.bel.size; omega), (hG3.block _ (by have h8 := lt_of_block F2.out.box; have h9 := E3.out.size; omega) (by have h8 := lt_of_block F2.out.box; have := P2.out.2.1; simp; omega)).trans ((E3.out.block _ (lt_of_block F2.out.box)).trans F2.out.box)⟩⟩); have K3 : Hd (w3.cell? ⟨w.heap.size, 0, none⟩ = some (.string l0) ∧ w3.cell? ⟨w.heap.size, 5, none⟩ = some (.int .i64 l5) ∧ w3.cell? ⟨w.heap.size, 6, none⟩ = some (.bool l6)) := ⟨P3.out.2.2.cell 0 rfl, P3.out.2.2.cell 5 rfl, P3.out.2.2.cell 6 rfl⟩; clear hO3 hG3 hA3)
        | (refine step_app rfl (.tmp 16) (.tmp 23) rfl 0 g2 (putText bs l0).length c2 (putText bs l0) [byB l5, bitB l6] rfl P2.out.1 rfl (Nat.zero_le _) (Nat.zero_le _) ⟨v2.heap.size, 0, none⟩ 2 2 rfl rfl ?_ ?_ ?_; (intro j x hx; rw [show ([byB l5, bitB l6].map cb) = [Value.int .u8 v, Value.int .u8 u] from (by rw [HV.out, ← HU.out]; rfl)] at hx; exact (by rw [Addr.add_lit, Nat.zero_add]; exact cellsA LB.out j (by simpa using hx))); (have := putText_len bs l0; have h8 := HB.out.2.2; have h9 := HB.out.1.size; omega); intro g3 c3 w3 hO3 hG3 hA3 _; have P3 : Hd (Own w3 g3 c3 H ∧ w.heap.size + 1 ≤ g3 ∧ Bx 32 w #[.string l0, .int .i64 l1, .slice x2 m2 d2, .int .i64 l3, .slice x4 m4 d4, .int .i64 l5, .bool l6] w3) := (⟨by rw [← HH.out.1]; exact hO3, by (rcases hA3 with h | h <;> rw [h]); (· have h7 := P2.out.2.1; have h8 := F2.out.bel.size; have h9 := lt_of_block F2.out.box; omega); (· have h8 := lt_of_block F2.out.box; have h9 := E2.out.size; simp <;> omega), ⟨(Below.trans F2.out.bel (Below.mono E2.out F2.out.bel.size)).grown hG3 (by have := (Below.trans F2.out.bel (Below.mono E2.out F2.out.bel.size)).size; exact this) (fun k e => by simp at e; have := P2.out.2.1; have := F2.out.bel.size; omega), (hG3.block _ (by have h8 := lt_of_block F2.out.box; have h9 := E2.out.size; omega) (by have h8 := lt_of_block F2.out.box; have := P2.out.2.1; simp; omega)).trans ((E2.out.block _ (lt_of_block F2.out.box)).trans F2.out.box)⟩⟩); have K3 : Hd (w3.cell? ⟨w.heap.size, 0, none⟩ = some (.string l0) ∧ w3.cell? ⟨w.heap.size, 5, none⟩ = some (.int .i64 l5) ∧ w3.cell? ⟨w.heap.size, 6, none⟩ = some (.bool l6)) := ⟨P3.out.2.2.cell 0 rfl, P3.out.2.2.cell 5 rfl, P3.out.2.2.cell 6 rfl⟩; clear hO3 hG3 hA3))
    all_goals
      have Q3 : Hd (Own w3 g3 c3 H ∧ w.heap.size + 1 ≤ g3 ∧ Bx 32 w #[.string l0, .int .i64 l1, .slice x2 m2 d2, .int .i64 l3, .slice x4 m4 d4, .int .i64 l5, .bool l6] w3) := ⟨P3.out⟩
      clear P3 K3 KK D0 D1 E2 E3 P2 HV HU
      obtain ⟨hn, hhn⟩ : ∃ n, H.length = n := ⟨_, rfl⟩
      have HN : Hd (H.length = hn ∧ hn ≤ 1900064) := ⟨hhn, by have := HH.out.2; have := HB.out.1.size; have := HB.out.2.2; omega⟩
      have hsp : (putText bs l0).length + 2 = hn := by rw [← hhn, ← HH.out.1]; simp
      rewrite [hsp]
      clear hsp hhn
      have cc0 := Q3.out.2.2.cell 0 rfl
      have cc1 := Q3.out.2.2.cell 1 rfl
      have cc2 := Q3.out.2.2.cell 2 rfl
      have cc3 := Q3.out.2.2.cell 3 rfl
      have cc4 := Q3.out.2.2.cell 4 rfl
      have cc5 := Q3.out.2.2.cell 5 rfl
      have cc6 := Q3.out.2.2.cell 6 rfl
      go_wp2_with fail
      clear cc0 cc1 cc2 cc3 cc4 cc5 cc6
      refine (l9Old_any l0 l1 x2 m2 d2 l3 x4 m4 d4 l5 l6 _).mono ?_
      rintro e v6 ⟨rfl, hB⟩
      rewrite [HOL.out]
      have R3 : Hd (Own v6 g3 c3 H ∧ w.heap.size + 1 ≤ g3 ∧ Bx 32 w #[.string l0, .int .i64 l1, .slice x2 m2 d2, .int .i64 l3, .slice x4 m4 d4, .int .i64 l5, .bool l6] v6) := ⟨Q3.out.1.below hB, Q3.out.2.1, Q3.out.2.2.below hB⟩
      clear hB Q3
      have Q3 := R3
      clear R3
      cases ol with
      | false =>
        have cc0 := Q3.out.2.2.cell 0 rfl
        have cc1 := Q3.out.2.2.cell 1 rfl
        have cc2 := Q3.out.2.2.cell 2 rfl
        have cc3 := Q3.out.2.2.cell 3 rfl
        have cc4 := Q3.out.2.2.cell 4 rfl
        have cc5 := Q3.out.2.2.cell 5 rfl
        have cc6 := Q3.out.2.2.cell 6 rfl
        go_wp2_with fail
        clear cc0 cc1 cc2 cc3 cc4 cc5 cc6
        refine (l9New_any l0 l1 x2 m2 d2 l3 x4 m4 d4 l5 l6 _).mono ?_
        rintro e v7 ⟨rfl, hB⟩
        rewrite [HNE.out]
        have R3 : Hd (Own v7 g3 c3 H ∧ w.heap.size + 1 ≤ g3 ∧ Bx 32 w #[.string l0, .int .i64 l1, .slice x2 m2 d2, .int .i64 l3, .slice x4 m4 d4, .int .i64 l5, .bool l6] v7) := ⟨Q3.out.1.below hB, Q3.out.2.1, Q3.out.2.2.below hB⟩
        clear hB Q3
        have Q3 := R3
        clear R3
        cases ne with
        | false =>
          have HZ : Hd (putRowB bs ⟨l0, l1, l2, l3, l4, l5, l6⟩ = H) := ⟨by rw [HR.out]; rfl⟩
          have cc0 := Q3.out.2.2.cell 0 rfl
          have cc1 := Q3.out.2.2.cell 1 rfl
          have cc2 := Q3.out.2.2.cell 2 rfl
          have cc3 := Q3.out.2.2.cell 3 rfl
          have cc4 := Q3.out.2.2.cell 4 rfl
          have cc5 := Q3.out.2.2.cell 5 rfl
          have cc6 := Q3.out.2.2.cell 6 rfl
          go_wp2_with fail
          go_ret
          exact ⟨g3, c3, by rw [HZ.out, HN.out.1]; rfl, by have := Q3.out.2.1; omega, by rw [HZ.out]; exact Q3.out.1, Q3.out.2.2.bel⟩
        | true =>
          have cc0 := Q3.out.2.2.cell 0 rfl
          have cc1 := Q3.out.2.2.cell 1 rfl
          have cc2 := Q3.out.2.2.cell 2 rfl
          have cc3 := Q3.out.2.2.cell 3 rfl
          have cc4 := Q3.out.2.2.cell 4 rfl
          have cc5 := Q3.out.2.2.cell 5 rfl
          have cc6 := Q3.out.2.2.cell 6 rfl
          go_wp2_with fail
          clear cc0 cc1 cc2 cc3 cc4 cc5 cc6
          refine (specPutCell_any g3 _ c3 _ l3 x4 m4 d4 l4 _ Q3.out.1 HN.out.1 (HP.out.2.1.below Q3.out.2.2.bel) (fun y hy => cellAt_ne HP.out.2.1 hy (by have := Q3.out.2.1; omega)) (by have := HP.out; omega) (by have := HN.out.2; omega)).mono ?_
          rintro e w4 ⟨g4, c4, rfl, hg, hO, hC⟩
          have Q4 : Hd (Own w4 g4 c4 (putCellB H l3 l4) ∧ w.heap.size + 1 ≤ g4 ∧ Bx 32 w #[.string l0, .int .i64 l1, .slice x2 m2 d2, .int .i64 l3, .slice x4 m4 d4, .int .i64 l5, .bool l6] w4) := ⟨hO, by have := lt_of_block Q3.out.2.2.box; omega, ⟨Q3.out.2.2.bel.trans (hC.below (B := w.heap.size) (fun y hy => by have := Q3.out.2.1; omega) Q3.out.2.2.bel.size), (hC.block _ (lt_of_block Q3.out.2.2.box) (fun hy => by have := Q3.out.2.1; omega)).trans Q3.out.2.2.box⟩⟩
          clear hg hO hC Q3
          have HZ : Hd (putRowB bs ⟨l0, l1, l2, l3, l4, l5, l6⟩ = (putCellB H l3 l4)) := ⟨by rw [HR.out]; rfl⟩
          have cc0 := Q4.out.2.2.cell 0 rfl
          have cc1 := Q4.out.2.2.cell 1 rfl
          have cc2 := Q4.out.2.2.cell 2 rfl
          have cc3 := Q4.out.2.2.cell 3 rfl
          have cc4 := Q4.out.2.2.cell 4 rfl
          have cc5 := Q4.out.2.2.cell 5 rfl
          have cc6 := Q4.out.2.2.cell 6 rfl
          go_wp2_with fail
          go_ret
          exact ⟨g4, c4, by rw [HZ.out]; rfl, by have := Q4.out.2.1; omega, by rw [HZ.out]; exact Q4.out.1, Q4.out.2.2.bel⟩
      | true =>
        have cc0 := Q3.out.2.2.cell 0 rfl
        have cc1 := Q3.out.2.2.cell 1 rfl
        have cc2 := Q3.out.2.2.cell 2 rfl
        have cc3 := Q3.out.2.2.cell 3 rfl
        have cc4 := Q3.out.2.2.cell 4 rfl
        have cc5 := Q3.out.2.2.cell 5 rfl
        have cc6 := Q3.out.2.2.cell 6 rfl
        go_wp2_with fail
        clear cc0 cc1 cc2 cc3 cc4 cc5 cc6
        refine (specPutCell_any g3 _ c3 _ l1 x2 m2 d2 l2 _ Q3.out.1 HN.out.1 (HP.out.1.below Q3.out.2.2.bel) (fun y hy => cellAt_ne HP.out.1 hy (by have := Q3.out.2.1; omega)) (by have := HP.out; omega) (by have := HN.out.2; omega)).mono ?_
        rintro e w4 ⟨g4, c4, rfl, hg, hO, hC⟩
        have Q4 : Hd (Own w4 g4 c4 (putCellB H l1 l2) ∧ w.heap.size + 1 ≤ g4 ∧ Bx 32 w #[.string l0, .int .i64 l1, .slice x2 m2 d2, .int .i64 l3, .slice x4 m4 d4, .int .i64 l5, .bool l6] w4) := ⟨hO, by have := lt_of_block Q3.out.2.2.box; omega, ⟨Q3.out.2.2.bel.trans (hC.below (B := w.heap.size) (fun y hy => by have := Q3.out.2.1; omega) Q3.out.2.2.bel.size), (hC.block _ (lt_of_block Q3.out.2.2.box) (fun hy => by have := Q3.out.2.1; omega)).trans Q3.out.2.2.box⟩⟩
        clear hg hO hC Q3
        have HM : Hd ((putCellB H l1 l2).length ≤ 1900200) := ⟨by have := putCellB_len H l1 l2; have := HN.out; omega⟩
        have cc0 := Q4.out.2.2.cell 0 rfl
        have cc1 := Q4.out.2.2.cell 1 rfl
        have cc2 := Q4.out.2.2.cell 2 rfl
        have cc3 := Q4.out.2.2.cell 3 rfl
        have cc4 := Q4.out.2.2.cell 4 rfl
        have cc5 := Q4.out.2.2.cell 5 rfl
        have cc6 := Q4.out.2.2.cell 6 rfl
        go_wp2_with fail
        clear cc0 cc1 cc2 cc3 cc4 cc5 cc6
        refine (l9New_any l0 l1 x2 m2 d2 l3 x4 m4 d4 l5 l6 _).mono ?_
        rintro e v7 ⟨rfl, hB⟩
        rewrite [HNE.out]
        have R4 : Hd (Own v7 g4 c4 (putCellB H l1 l2) ∧ w.heap.size + 1 ≤ g4 ∧ Bx 32 w #[.string l0, .int .i64 l1, .slice x2 m2 d2, .int .i64 l3, .slice x4 m4 d4, .int .i64 l5, .bool l6] v7) := ⟨Q4.out.1.below hB, Q4.out.2.1, Q4.out.2.2.below hB⟩
        clear hB Q4
        have Q4 := R4
        clear R4
        cases ne with
        | false =>
          have HZ : Hd (putRowB bs ⟨l0, l1, l2, l3, l4, l5, l6⟩ = (putCellB H l1 l2)) := ⟨by rw [HR.out]; rfl⟩
          have cc0 := Q4.out.2.2.cell 0 rfl
          have cc1 := Q4.out.2.2.cell 1 rfl
          have cc2 := Q4.out.2.2.cell 2 rfl
          have cc3 := Q4.out.2.2.cell 3 rfl
          have cc4 := Q4.out.2.2.cell 4 rfl
          have cc5 := Q4.out.2.2.cell 5 rfl
          have cc6 := Q4.out.2.2.cell 6 rfl
          go_wp2_with fail
          go_ret
          exact ⟨g4, c4, by rw [HZ.out]; rfl, by have := Q4.out.2.1; omega, by rw [HZ.out]; exact Q4.out.1, Q4.out.2.2.bel⟩
        | true =>
          have cc0 := Q4.out.2.2.cell 0 rfl
          have cc1 := Q4.out.2.2.cell 1 rfl
          have cc2 := Q4.out.2.2.cell 2 rfl
          have cc3 := Q4.out.2.2.cell 3 rfl
          have cc4 := Q4.out.2.2.cell 4 rfl
          have cc5 := Q4.out.2.2.cell 5 rfl
          have cc6 := Q4.out.2.2.cell 6 rfl
          go_wp2_with fail
          clear cc0 cc1 cc2 cc3 cc4 cc5 cc6
          refine (specPutCell_any g4 _ c4 _ l3 x4 m4 d4 l4 _ Q4.out.1 rfl (HP.out.2.1.below Q4.out.2.2.bel) (fun y hy => cellAt_ne HP.out.2.1 hy (by have := Q4.out.2.1; omega)) (by have := HP.out; omega) (by have := HM.out; omega)).mono ?_
          rintro e w5 ⟨g5, c5, rfl, hg, hO, hC⟩
          have Q5 : Hd (Own w5 g5 c5 (putCellB (putCellB H l1 l2) l3 l4) ∧ w.heap.size + 1 ≤ g5 ∧ Bx 32 w #[.string l0, .int .i64 l1, .slice x2 m2 d2, .int .i64 l3, .slice x4 m4 d4, .int .i64 l5, .bool l6] w5) := ⟨hO, by have := lt_of_block Q4.out.2.2.box; omega, ⟨Q4.out.2.2.bel.trans (hC.below (B := w.heap.size) (fun y hy => by have := Q4.out.2.1; omega) Q4.out.2.2.bel.size), (hC.block _ (lt_of_block Q4.out.2.2.box) (fun hy => by have := Q4.out.2.1; omega)).trans Q4.out.2.2.box⟩⟩
          clear hg hO hC Q4
          have HZ : Hd (putRowB bs ⟨l0, l1, l2, l3, l4, l5, l6⟩ = (putCellB (putCellB H l1 l2) l3 l4)) := ⟨by rw [HR.out]; rfl⟩
          have cc0 := Q5.out.2.2.cell 0 rfl
          have cc1 := Q5.out.2.2.cell 1 rfl
          have cc2 := Q5.out.2.2.cell 2 rfl
          have cc3 := Q5.out.2.2.cell 3 rfl
          have cc4 := Q5.out.2.2.cell 4 rfl
          have cc5 := Q5.out.2.2.cell 5 rfl
          have cc6 := Q5.out.2.2.cell 6 rfl
          go_wp2_with fail
          go_ret
          exact ⟨g5, c5, by rw [HZ.out]; rfl, by have := Q5.out.2.1; omega, by rw [HZ.out]; exact Q5.out.1, Q5.out.2.2.bel⟩

end Go.Proofs.YtbeiocngiippgabDoor
