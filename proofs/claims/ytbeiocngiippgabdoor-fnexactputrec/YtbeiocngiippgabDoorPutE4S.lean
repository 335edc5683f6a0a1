/- PutRec, kind 4. -/
import Derived.Test.YtbeiocngiippgabDoorPutEP
namespace Go.Proofs.YtbeiocngiippgabDoor
set_option maxRecDepth 4000
open Go.RowKit

set_option maxHeartbeats 16000000 in
theorem specPutRec_4 (gen place : Int) (cs : List Value) (r : RecD) (w : World) (h : RcRec w cs r) (hw : wtRec r ≤ 1048576) (hk : r.kind ≠ 1 ∧ r.kind ≠ 2 ∧ r.kind ≠ 3) (hok : recOk r = true) (hg : inB gen 0 65535 = true) (hp : inB place 0 65535 = true) :
    Calls Tryd.prog 20 #[.int .i64 gen, .int .i64 place, .agg cs.toArray] w (AnsSl OwB (putRecB gen place r) w) := by
  obtain ⟨l0, ⟨l1, l2, l3, l4, l5, l6, l7⟩, l8, l9, l10, l11, l12⟩ := r
  have HA : Hd (RcRec w cs ⟨l0, ⟨l1, l2, l3, l4, l5, l6, l7⟩, l8, l9, l10, l11, l12⟩) := ⟨h⟩
  simp only [RcRec] at h
  obtain ⟨x3, m3, d3, x5, m5, d5, rfl, _, r1⟩ := h
  have HWT : Hd (wtRec ⟨l0, ⟨l1, l2, l3, l4, l5, l6, l7⟩, l8, l9, l10, l11, l12⟩ ≤ 1048576) := ⟨hw⟩
  unfold wtRec at hw
  dsimp only at hw
  have HW : Hd (wtRow ⟨l1, l2, l3, l4, l5, l6, l7⟩ ≤ 1048576 ∧ l8.size ≤ 1048576) := ⟨by omega, by omega⟩
  have HR : Hd (RcRow w [.string l1, .int .i64 l2, .slice x3 m3 d3, .int .i64 l4, .slice x5 m5 d5, .int .i64 l6, .bool l7] ⟨l1, l2, l3, l4, l5, l6, l7⟩) := ⟨r1⟩
  clear hw r1
  have F0 : Hd (Bx 47 w #[.int .i64 l0, .string l1, .int .i64 l2, .slice x3 m3 d3, .int .i64 l4, .slice x5 m5 d5, .int .i64 l6, .bool l7, .string l8, .int .i64 l9, .int .i64 l10, .int .i64 l11, .int .i64 l12] (w.alloc (.cells #[.int .i64 l0, .string l1, .int .i64 l2, .slice x3 m3 d3, .int .i64 l4, .slice x5 m5 d5, .int .i64 l6, .bool l7, .string l8, .int .i64 l9, .int .i64 l10, .int .i64 l11, .int .i64 l12] 47))) := ⟨Bx.new _ w _⟩
  have HK : Hd (recOk ⟨l0, ⟨l1, l2, l3, l4, l5, l6, l7⟩, l8, l9, l10, l11, l12⟩ = true) := ⟨hok⟩
  have HG : Hd (inB gen 0 65535 = true) := ⟨hg⟩
  have HP : Hd (inB place 0 65535 = true) := ⟨hp⟩
  dsimp only at hk
  clear hok hg hp
  have HBD : bodyB ⟨l0, ⟨l1, l2, l3, l4, l5, l6, l7⟩, l8, l9, l10, l11, l12⟩ (headB gen place l0) = (headB gen place l0) := by
    unfold bodyB
    dsimp only
    rw [if_neg hk.1, if_neg hk.2.1, if_neg hk.2.2]
  have HBL : Hd ((headB gen place l0).length ≤ 195) := ⟨by have h := bodyB_len ⟨l0, ⟨l1, l2, l3, l4, l5, l6, l7⟩, l8, l9, l10, l11, l12⟩ (headB gen place l0); rw [HBD] at h; exact h⟩
  have HZ : Hd (putRecB gen place ⟨l0, ⟨l1, l2, l3, l4, l5, l6, l7⟩, l8, l9, l10, l11, l12⟩ = summedB ((headB gen place l0) ++ [byB l10, byB l12] ++ [hiB l11, loB l11])) := ⟨by
    unfold putRecB
    rw [if_neg (by rw [HK.out, HG.out, HP.out]; simp)]
    unfold tailB
    dsimp only
    rw [HBD]⟩
  clear HBD
  have k1 : (l0 == 1) = false := by simp only [beq_eq_false_iff_ne]; omega
  have k2 : (l0 == 2) = false := by simp only [beq_eq_false_iff_ne]; omega
  have k3 : (l0 == 3) = false := by simp only [beq_eq_false_iff_ne]; omega
  clear hk
  obtain ⟨u0, hu0⟩ : ∃ v, IntKind.u8.wrap l0 = v := ⟨_, rfl⟩
  have HU0 : Hd (u0 = ((byB l0).toNat : Int)) := ⟨by rw [← hu0, IntKind.wrap_u8]; exact byB_val l0⟩
  obtain ⟨u10, hu10⟩ : ∃ v, IntKind.u8.wrap l10 = v := ⟨_, rfl⟩
  have HU10 : Hd (u10 = ((byB l10).toNat : Int)) := ⟨by rw [← hu10, IntKind.wrap_u8]; exact byB_val l10⟩
  obtain ⟨u12, hu12⟩ : ∃ v, IntKind.u8.wrap l12 = v := ⟨_, rfl⟩
  have HU12 : Hd (u12 = ((byB l12).toNat : Int)) := ⟨by rw [← hu12, IntKind.wrap_u8]; exact byB_val l12⟩
  go_enter Tryd.func20, Tryd.ntmps20
  go_wp2_with fail
  refine (specRecOk_rd _ _ _ (rcRec_ok.below HA.out F0.out.bel) HWT.out).mono ?_
  rintro e v1 ⟨rfl, hB⟩
  rewrite [HK.out]
  have F1 : Hd (Bx 47 w #[.int .i64 l0, .string l1, .int .i64 l2, .slice x3 m3 d3, .int .i64 l4, .slice x5 m5 d5, .int .i64 l6, .bool l7, .string l8, .int .i64 l9, .int .i64 l10, .int .i64 l11, .int .i64 l12] v1) := ⟨F0.out.below hB⟩
  clear hB F0
  go_wp2_with fail
  refine (l1Word_any gen _).mono ?_
  rintro e v9 ⟨rfl, hw⟩
  replace hw := hw.symm
  subst hw
  rewrite [HG.out]
  go_wp2_with fail
  refine (l1Word_any place _).mono ?_
  rintro e v9 ⟨rfl, hw⟩
  replace hw := hw.symm
  subst hw
  rewrite [HP.out]
  have cc0 := F1.out.cell 0 rfl
  have cc1 := F1.out.cell 1 rfl
  have cc2 := F1.out.cell 2 rfl
  have cc3 := F1.out.cell 3 rfl
  have cc4 := F1.out.cell 4 rfl
  have cc5 := F1.out.cell 5 rfl
  have cc6 := F1.out.cell 6 rfl
  have cc7 := F1.out.cell 7 rfl
  have cc8 := F1.out.cell 8 rfl
  have cc9 := F1.out.cell 9 rfl
  have cc10 := F1.out.cell 10 rfl
  have cc11 := F1.out.cell 11 rfl
  have cc12 := F1.out.cell 12 rfl
  have KK : Hd (∀ w', Below v1.heap.size v1 w' → (w'.cell? ⟨w.heap.size, 0, none⟩ = some (.int .i64 l0))) := ⟨fun w' hb => cell_below (F1.out.cell 0 rfl) hb⟩
  have DD : Hd (Below v1.heap.size v1 v1.drew) := ⟨(Below.refl _ v1).drew⟩
  have DL : Hd (Below v1.heap.size v1 ((v1.alloc (.cells #[.int .u8 u0] 5)).drew)) := ⟨(below_lit v1 _).drew⟩
  have D2 : Hd (Below v1.heap.size v1 ((v1.alloc (.cells #[] 5)).drew)) := ⟨(below_lit v1 _).drew⟩
  have D1 : Hd (Below v1.heap.size v1 (((v1.alloc (.cells #[] 5)).alloc (.cells #[.int .u8 u0] 5)).drew)) := ⟨(below_lit2 v1 _ _).drew⟩
  have D0 : Hd (Below v1.heap.size v1 (((v1.alloc (.cells #[.int .u8 u0] 5)).alloc (.cells #[] 5)).drew)) := ⟨(below_lit2 v1 _ _).drew⟩
  have I2 : Hd (((v1.alloc (.cells #[] 5)).drew).heap[v1.heap.size]? = some (.cells #[] 5)) := ⟨heap_alloc_new v1 _⟩
  have I1 : Hd ((((v1.alloc (.cells #[] 5)).alloc (.cells #[.int .u8 u0] 5)).drew).heap[v1.heap.size]? = some (.cells #[] 5)) := ⟨((below_lit (v1.alloc (.cells #[] 5)) (.cells #[.int .u8 u0] 5)).block v1.heap.size (by simp)).trans (heap_alloc_new v1 _)⟩
  have I0 : Hd ((((v1.alloc (.cells #[.int .u8 u0] 5)).alloc (.cells #[] 5)).drew).heap[v1.heap.size + 1]? = some (.cells #[] 5)) := ⟨alloc_new (v1.alloc (.cells #[.int .u8 u0] 5)) (.cells #[] 5) (by simp)⟩
  have L1 : Hd ((((v1.alloc (.cells #[] 5)).alloc (.cells #[.int .u8 u0] 5)).drew).heap[v1.heap.size + 1]? = some (.cells #[.int .u8 u0] 5)) := ⟨alloc_new (v1.alloc (.cells #[] 5)) (.cells #[.int .u8 u0] 5) (by simp)⟩
  have L0 : Hd ((((v1.alloc (.cells #[.int .u8 u0] 5)).alloc (.cells #[] 5)).drew).heap[v1.heap.size]? = some (.cells #[.int .u8 u0] 5)) := ⟨((below_lit (v1.alloc (.cells #[.int .u8 u0] 5)) (.cells #[] 5)).block v1.heap.size (by simp)).trans (heap_alloc_new v1 _)⟩
  go_wp2_with fail
  go_region_held_law (fun w' => w'.cell? ⟨w.heap.size, 0, none⟩ = some (.int .i64 l0)) (first | (with_reducible exact K5.out) | (with_reducible exact KK.out _ E5.out) | (with_reducible exact KK.out _ E4.out) | (with_reducible exact KK.out _ E3.out) | (with_reducible exact KK.out _ E2.out) | (with_reducible exact KK.out _ D0.out) | (with_reducible exact KK.out _ D1.out) | (with_reducible exact KK.out _ D2.out) | (with_reducible exact KK.out _ DL.out) | (with_reducible exact KK.out _ DD.out))
    (first | (have G9 := P4; clear G9; have G9 := LC0; clear G9; show (if Region.wanted _ _ = true then Oper.wp _ _ _ _ _ _ else _); refine step_app rfl (.tmp 26) (.tmp 30) rfl 0 g3 4 _ [hiB gen, loB gen, hiB place, loB place] [byB l0] rfl P4.out.1 rfl (Nat.zero_le _) (Nat.zero_le _) ⟨v1.heap.size, 0, none⟩ 1 1 rfl rfl ?_ (by omega) ?_; (intro j x hx; rw [show ([byB l0].map cb) = [Value.int .u8 u0] from (by rw [HU0.out]; rfl)] at hx; exact (by rw [Addr.add_lit, Nat.zero_add]; exact cellsA LC0.out j (by simpa using hx))); intro g4 c4 w4 hO4 hG4 hA4 _; have P5 : Hd (Own w4 g4 c4 (headB gen place l0) ∧ w.heap.size + 1 ≤ g4 ∧ Bx 47 w #[.int .i64 l0, .string l1, .int .i64 l2, .slice x3 m3 d3, .int .i64 l4, .slice x5 m5 d5, .int .i64 l6, .bool l7, .string l8, .int .i64 l9, .int .i64 l10, .int .i64 l11, .int .i64 l12] w4) := (⟨hO4, bx_grow (F1.out.below E4.out) (by have := P4.out.2; have := lt_of_block F1.out.box; omega) hG4 hA4⟩); have K5 : Hd (w4.cell? ⟨w.heap.size, 0, none⟩ = some (.int .i64 l0)) := ⟨P5.out.2.2.cell 0 rfl⟩; clear hO4 hG4 hA4) | (have G9 := P4; clear G9; have G9 := LC1; clear G9; show (if Region.wanted _ _ = true then Oper.wp _ _ _ _ _ _ else _); refine step_app rfl (.tmp 26) (.tmp 30) rfl 0 g3 4 _ [hiB gen, loB gen, hiB place, loB place] [byB l0] rfl P4.out.1 rfl (Nat.zero_le _) (Nat.zero_le _) ⟨v1.heap.size + 1, 0, none⟩ 1 1 rfl rfl ?_ (by omega) ?_; (intro j x hx; rw [show ([byB l0].map cb) = [Value.int .u8 u0] from (by rw [HU0.out]; rfl)] at hx; exact (by rw [Addr.add_lit, Nat.zero_add]; exact cellsA LC1.out j (by simpa using hx))); intro g4 c4 w4 hO4 hG4 hA4 _; have P5 : Hd (Own w4 g4 c4 (headB gen place l0) ∧ w.heap.size + 1 ≤ g4 ∧ Bx 47 w #[.int .i64 l0, .string l1, .int .i64 l2, .slice x3 m3 d3, .int .i64 l4, .slice x5 m5 d5, .int .i64 l6, .bool l7, .string l8, .int .i64 l9, .int .i64 l10, .int .i64 l11, .int .i64 l12] w4) := (⟨hO4, bx_grow (F1.out.below E4.out) (by have := P4.out.2; have := lt_of_block F1.out.box; omega) hG4 hA4⟩); have K5 : Hd (w4.cell? ⟨w.heap.size, 0, none⟩ = some (.int .i64 l0)) := ⟨P5.out.2.2.cell 0 rfl⟩; clear hO4 hG4 hA4) | (have G9 := P4; clear G9; have G9 := LC2; clear G9; show (if Region.wanted _ _ = true then Oper.wp _ _ _ _ _ _ else _); refine step_app rfl (.tmp 26) (.tmp 30) rfl 0 g3 4 _ [hiB gen, loB gen, hiB place, loB place] [byB l0] rfl P4.out.1 rfl (Nat.zero_le _) (Nat.zero_le _) ⟨w2.heap.size, 0, none⟩ 1 1 rfl rfl ?_ (by omega) ?_; (intro j x hx; rw [show ([byB l0].map cb) = [Value.int .u8 u0] from (by rw [HU0.out]; rfl)] at hx; exact (by rw [Addr.add_lit, Nat.zero_add]; exact cellsA LC2.out j (by simpa using hx))); intro g4 c4 w4 hO4 hG4 hA4 _; have P5 : Hd (Own w4 g4 c4 (headB gen place l0) ∧ w.heap.size + 1 ≤ g4 ∧ Bx 47 w #[.int .i64 l0, .string l1, .int .i64 l2, .slice x3 m3 d3, .int .i64 l4, .slice x5 m5 d5, .int .i64 l6, .bool l7, .string l8, .int .i64 l9, .int .i64 l10, .int .i64 l11, .int .i64 l12] w4) := (⟨hO4, bx_grow (F1.out.below E4.out) (by have := P4.out.2; have := lt_of_block F1.out.box; omega) hG4 hA4⟩); have K5 : Hd (w4.cell? ⟨w.heap.size, 0, none⟩ = some (.int .i64 l0)) := ⟨P5.out.2.2.cell 0 rfl⟩; clear hO4 hG4 hA4) | (have G9 := P4; clear G9; show (if Region.wanted _ _ = true then Oper.wp _ _ _ _ _ _ else _); refine step_app rfl (.tmp 26) (.tmp 30) rfl 0 g3 4 _ [hiB gen, loB gen, hiB place, loB place] [byB l0] rfl (P4.out.1.below (below_lit w3 (.cells #[.int .u8 u0] 5))) rfl (Nat.zero_le _) (Nat.zero_le _) ⟨w3.heap.size, 0, none⟩ 1 1 rfl rfl ?_ (by omega) ?_; (intro j x hx; rw [show ([byB l0].map cb) = [Value.int .u8 u0] from (by rw [HU0.out]; rfl)] at hx; exact (by rw [Addr.add_lit, Nat.zero_add]; exact cellsA (alloc_new w3 (.cells #[.int .u8 u0] 5) rfl) j (by simpa using hx))); intro g4 c4 w4 hO4 hG4 hA4 _; have P5 : Hd (Own w4 g4 c4 (headB gen place l0) ∧ w.heap.size + 1 ≤ g4 ∧ Bx 47 w #[.int .i64 l0, .string l1, .int .i64 l2, .slice x3 m3 d3, .int .i64 l4, .slice x5 m5 d5, .int .i64 l6, .bool l7, .string l8, .int .i64 l9, .int .i64 l10, .int .i64 l11, .int .i64 l12] w4) := (⟨hO4, bx_grow (F1.out.below E5.out) (by have := P4.out.2; have := lt_of_block F1.out.box; omega) hG4 hA4⟩); have K5 : Hd (w4.cell? ⟨w.heap.size, 0, none⟩ = some (.int .i64 l0)) := ⟨P5.out.2.2.cell 0 rfl⟩; clear hO4 hG4 hA4) | (have G9 := P2; clear G9; have G9 := LB0; clear G9; go_at_call 46; refine (specPutW_some g2 0 2 _ [hiB gen, loB gen] place _ rfl ?_ ?_ (by omega)).mono ?_; (with_reducible exact (P2.out.1.cell rfl)); (with_reducible exact P2.out.1.lt); rintro e w3 ⟨g3, c3, rfl, hg, hO, hB⟩; have E4 : Hd (Below v1.heap.size v1 w3) := ⟨Below.next E2.out hB⟩; have P4 : Hd (Own w3 g3 c3 [hiB gen, loB gen, hiB place, loB place] ∧ v1.heap.size ≤ g3) := ⟨hO, Nat.le_trans E2.out.size hg⟩; have E5 : Hd (Below v1.heap.size v1 (w3.alloc (.cells #[.int .u8 u0] 5))) := ⟨Below.next E4.out (below_lit w3 _)⟩; have LC0 : Hd (w3.heap[v1.heap.size]? = some (.cells #[.int .u8 u0] 5 (0, 0))) := ⟨(hB.block _ (lt_of_block LB0.out)).trans LB0.out⟩; clear hg hO hB) | (have G9 := P2; clear G9; have G9 := LB1; clear G9; go_at_call 46; refine (specPutW_some g2 0 2 _ [hiB gen, loB gen] place _ rfl ?_ ?_ (by omega)).mono ?_; (with_reducible exact (P2.out.1.cell rfl)); (with_reducible exact P2.out.1.lt); rintro e w3 ⟨g3, c3, rfl, hg, hO, hB⟩; have E4 : Hd (Below v1.heap.size v1 w3) := ⟨Below.next E2.out hB⟩; have P4 : Hd (Own w3 g3 c3 [hiB gen, loB gen, hiB place, loB place] ∧ v1.heap.size ≤ g3) := ⟨hO, Nat.le_trans E2.out.size hg⟩; have E5 : Hd (Below v1.heap.size v1 (w3.alloc (.cells #[.int .u8 u0] 5))) := ⟨Below.next E4.out (below_lit w3 _)⟩; have LC1 : Hd (w3.heap[v1.heap.size + 1]? = some (.cells #[.int .u8 u0] 5 (0, 0))) := ⟨(hB.block _ (lt_of_block LB1.out)).trans LB1.out⟩; clear hg hO hB) | (have G9 := P2; clear G9; go_at_call 46; refine (specPutW_some g2 0 2 _ [hiB gen, loB gen] place _ rfl ?_ ?_ (by omega)).mono ?_; (with_reducible exact ((P2.out.1.below (below_lit w2 (.cells #[.int .u8 u0] 5))).cell rfl)); (with_reducible exact (P2.out.1.below (below_lit w2 (.cells #[.int .u8 u0] 5))).lt); rintro e w3 ⟨g3, c3, rfl, hg, hO, hB⟩; have E4 : Hd (Below v1.heap.size v1 w3) := ⟨Below.next E3.out hB⟩; have P4 : Hd (Own w3 g3 c3 [hiB gen, loB gen, hiB place, loB place] ∧ v1.heap.size ≤ g3) := ⟨hO, Nat.le_trans E3.out.size hg⟩; have E5 : Hd (Below v1.heap.size v1 (w3.alloc (.cells #[.int .u8 u0] 5))) := ⟨Below.next E4.out (below_lit w3 _)⟩; have LC2 : Hd (w3.heap[w2.heap.size]? = some (.cells #[.int .u8 u0] 5 (0, 0))) := ⟨(hB.block _ (lt_of_block (alloc_new w2 (.cells #[.int .u8 u0] 5) rfl))).trans (alloc_new w2 (.cells #[.int .u8 u0] 5) rfl)⟩; clear hg hO hB) | (have G9 := P2; clear G9; go_at_call 46; refine (specPutW_some g2 0 2 _ [hiB gen, loB gen] place _ rfl ?_ ?_ (by omega)).mono ?_; (with_reducible exact (P2.out.1.cell rfl)); (with_reducible exact P2.out.1.lt); rintro e w3 ⟨g3, c3, rfl, hg, hO, hB⟩; have E4 : Hd (Below v1.heap.size v1 w3) := ⟨Below.next E2.out hB⟩; have P4 : Hd (Own w3 g3 c3 [hiB gen, loB gen, hiB place, loB place] ∧ v1.heap.size ≤ g3) := ⟨hO, Nat.le_trans E2.out.size hg⟩; have E5 : Hd (Below v1.heap.size v1 (w3.alloc (.cells #[.int .u8 u0] 5))) := ⟨Below.next E4.out (below_lit w3 _)⟩; clear hg hO hB) | (go_at_call 46; refine (specPutW_some _ 0 0 _ [] gen _ rfl (fun j hj => absurd hj (Nat.not_lt_zero j)) ?_ (by omega)).mono ?_; (first | ((with_reducible exact lt_of_block I2.out); rintro e w2 ⟨g2, c2, rfl, hg, hO, hB⟩; have E2 : Hd (Below v1.heap.size v1 w2) := ⟨Below.next D2.out hB⟩; have P2 : Hd (Own w2 g2 c2 [hiB gen, loB gen] ∧ v1.heap.size ≤ g2) := ⟨hO, Nat.le_trans D2.out.size hg⟩; have E3 : Hd (Below v1.heap.size v1 (w2.alloc (.cells #[.int .u8 u0] 5))) := ⟨Below.next E2.out (below_lit w2 _)⟩; clear hg hO hB) | ((with_reducible exact lt_of_block I1.out); rintro e w2 ⟨g2, c2, rfl, hg, hO, hB⟩; have E2 : Hd (Below v1.heap.size v1 w2) := ⟨Below.next D1.out hB⟩; have P2 : Hd (Own w2 g2 c2 [hiB gen, loB gen] ∧ v1.heap.size ≤ g2) := ⟨hO, Nat.le_trans D1.out.size hg⟩; have E3 : Hd (Below v1.heap.size v1 (w2.alloc (.cells #[.int .u8 u0] 5))) := ⟨Below.next E2.out (below_lit w2 _)⟩; have LB1 : Hd (w2.heap[v1.heap.size + 1]? = some (.cells #[.int .u8 u0] 5 (0, 0))) := ⟨(hB.block _ (lt_of_block L1.out)).trans L1.out⟩; clear hg hO hB) | ((with_reducible exact lt_of_block I0.out); rintro e w2 ⟨g2, c2, rfl, hg, hO, hB⟩; have E2 : Hd (Below v1.heap.size v1 w2) := ⟨Below.next D0.out hB⟩; have P2 : Hd (Own w2 g2 c2 [hiB gen, loB gen] ∧ v1.heap.size ≤ g2) := ⟨hO, Nat.le_trans D0.out.size hg⟩; have E3 : Hd (Below v1.heap.size v1 (w2.alloc (.cells #[.int .u8 u0] 5))) := ⟨Below.next E2.out (below_lit w2 _)⟩; have LB0 : Hd (w2.heap[v1.heap.size]? = some (.cells #[.int .u8 u0] 5 (0, 0))) := ⟨(hB.block _ (lt_of_block L0.out)).trans L0.out⟩; clear hg hO hB))))
  all_goals
    have Q4 : Hd (Own w4 g4 c4 (headB gen place l0) ∧ w.heap.size + 1 ≤ g4 ∧ Bx 47 w #[.int .i64 l0, .string l1, .int .i64 l2, .slice x3 m3 d3, .int .i64 l4, .slice x5 m5 d5, .int .i64 l6, .bool l7, .string l8, .int .i64 l9, .int .i64 l10, .int .i64 l11, .int .i64 l12] w4) := P5
    clear cc0 cc1 cc2 cc3 cc4 cc5 cc6 cc7 cc8 cc9 cc10 cc11 cc12
    clear P5 K5 KK DD DL D2 D1 D0 I2 I1 I0 L1 L0 P4 E4 E5 P2 E2 E3 F1
    try clear LC0
    try clear LC1
    try clear LC2
    try clear LB0
    try clear LB1
    have cc0 := Q4.out.2.2.cell 0 rfl
    have cc1 := Q4.out.2.2.cell 1 rfl
    have cc2 := Q4.out.2.2.cell 2 rfl
    have cc3 := Q4.out.2.2.cell 3 rfl
    have cc4 := Q4.out.2.2.cell 4 rfl
    have cc5 := Q4.out.2.2.cell 5 rfl
    have cc6 := Q4.out.2.2.cell 6 rfl
    have cc7 := Q4.out.2.2.cell 7 rfl
    have cc8 := Q4.out.2.2.cell 8 rfl
    have cc9 := Q4.out.2.2.cell 9 rfl
    have cc10 := Q4.out.2.2.cell 10 rfl
    have cc11 := Q4.out.2.2.cell 11 rfl
    have cc12 := Q4.out.2.2.cell 12 rfl
    have FA : Hd (Bx 47 w #[.int .i64 l0, .string l1, .int .i64 l2, .slice x3 m3 d3, .int .i64 l4, .slice x5 m5 d5, .int .i64 l6, .bool l7, .string l8, .int .i64 l9, .int .i64 l10, .int .i64 l11, .int .i64 l12] ((w4.alloc (.cells #[.int .u8 u10, .int .u8 u12] 5)).drew)) := ⟨Q4.out.2.2.below (below_lit w4 _).drew⟩
    have OA : Hd (Own ((w4.alloc (.cells #[.int .u8 u10, .int .u8 u12] 5)).drew) g4 c4 (headB gen place l0)) := ⟨Q4.out.1.below (below_lit w4 _).drew⟩
    have LA : Hd (((w4.alloc (.cells #[.int .u8 u10, .int .u8 u12] 5)).drew).heap[w4.heap.size]? = some (.cells #[.int .u8 u10, .int .u8 u12] 5)) := ⟨heap_alloc_new w4 _⟩
    have K0 : Hd (w4.drew.cell? ⟨w.heap.size, 10, none⟩ = some (.int .i64 l10) ∧ w4.drew.cell? ⟨w.heap.size, 11, none⟩ = some (.int .i64 l11) ∧ w4.drew.cell? ⟨w.heap.size, 12, none⟩ = some (.int .i64 l12)) := ⟨Q4.out.2.2.cell 10 rfl, Q4.out.2.2.cell 11 rfl, Q4.out.2.2.cell 12 rfl⟩
    have K1 : Hd (((w4.alloc (.cells #[.int .u8 u10, .int .u8 u12] 5)).drew).cell? ⟨w.heap.size, 10, none⟩ = some (.int .i64 l10) ∧ ((w4.alloc (.cells #[.int .u8 u10, .int .u8 u12] 5)).drew).cell? ⟨w.heap.size, 11, none⟩ = some (.int .i64 l11) ∧ ((w4.alloc (.cells #[.int .u8 u10, .int .u8 u12] 5)).drew).cell? ⟨w.heap.size, 12, none⟩ = some (.int .i64 l12)) := ⟨FA.out.cell 10 rfl, FA.out.cell 11 rfl, FA.out.cell 12 rfl⟩
    go_wp2_with fail
    go_region_held_law (fun w' => w'.cell? ⟨w.heap.size, 10, none⟩ = some (.int .i64 l10) ∧ w'.cell? ⟨w.heap.size, 11, none⟩ = some (.int .i64 l11) ∧ w'.cell? ⟨w.heap.size, 12, none⟩ = some (.int .i64 l12)) (first | (with_reducible exact K3.out) | (with_reducible exact K2.out) | (with_reducible exact K1.out) | (with_reducible exact K0.out))
      (first
        | (have G9 := K2; clear G9; go_at_call 46; refine (specPutW_some g6 0 _ _ ((headB gen place l0) ++ [byB l10, byB l12]) l11 _ (by rw [List.length_append]; rfl) (O6.out.1.cell (by rw [List.length_append]; rfl)) O6.out.1.lt (by omega)).mono ?_; rintro e w7 ⟨g7, c7, rfl, hg, hO, hB⟩; have Q7 : Hd (Own w7 g7 c7 ((headB gen place l0) ++ [byB l10, byB l12] ++ [hiB l11, loB l11]) ∧ w.heap.size + 1 ≤ g7 ∧ Bx 47 w #[.int .i64 l0, .string l1, .int .i64 l2, .slice x3 m3 d3, .int .i64 l4, .slice x5 m5 d5, .int .i64 l6, .bool l7, .string l8, .int .i64 l9, .int .i64 l10, .int .i64 l11, .int .i64 l12] w7) := (⟨hO, by have := lt_of_block O6.out.2.2.box; omega, O6.out.2.2.below hB⟩); have K3 : Hd (w7.cell? ⟨w.heap.size, 10, none⟩ = some (.int .i64 l10) ∧ w7.cell? ⟨w.heap.size, 11, none⟩ = some (.int .i64 l11) ∧ w7.cell? ⟨w.heap.size, 12, none⟩ = some (.int .i64 l12)) := ⟨Q7.out.2.2.cell 10 rfl, Q7.out.2.2.cell 11 rfl, Q7.out.2.2.cell 12 rfl⟩; clear hg hO hB)
        | (show (if Region.wanted _ _ = true then Oper.wp _ _ _ _ _ _ else _); refine step_app rfl (.tmp 54) (.tmp 61) rfl 0 g4 5 c4 (headB gen place l0) [byB l10, byB l12] rfl OA.out rfl (Nat.zero_le _) (Nat.zero_le _) ⟨w4.heap.size, 0, none⟩ 2 2 rfl rfl ?_ ?_ ?_; (intro j x hx; rw [show ([byB l10, byB l12].map cb) = [Value.int .u8 u10, Value.int .u8 u12] from (by rw [HU10.out, HU12.out]; rfl)] at hx; exact (by rw [Addr.add_lit, Nat.zero_add]; exact cellsA LA.out j (by simpa using hx))); (have := HBL.out; omega); intro g6 c6 w6 hO6 hG6 hA6 _; have O6 : Hd (Own w6 g6 c6 ((headB gen place l0) ++ [byB l10, byB l12]) ∧ w.heap.size + 1 ≤ g6 ∧ Bx 47 w #[.int .i64 l0, .string l1, .int .i64 l2, .slice x3 m3 d3, .int .i64 l4, .slice x5 m5 d5, .int .i64 l6, .bool l7, .string l8, .int .i64 l9, .int .i64 l10, .int .i64 l11, .int .i64 l12] w6) := (⟨hO6, bx_grow FA.out Q4.out.2.1 hG6 hA6⟩); have K2 : Hd (w6.cell? ⟨w.heap.size, 10, none⟩ = some (.int .i64 l10) ∧ w6.cell? ⟨w.heap.size, 11, none⟩ = some (.int .i64 l11) ∧ w6.cell? ⟨w.heap.size, 12, none⟩ = some (.int .i64 l12)) := ⟨O6.out.2.2.cell 10 rfl, O6.out.2.2.cell 11 rfl, O6.out.2.2.cell 12 rfl⟩; clear hO6 hG6 hA6))
    all_goals
      have Q8 : Hd (Own w7 g7 c7 ((headB gen place l0) ++ [byB l10, byB l12] ++ [hiB l11, loB l11]) ∧ w.heap.size + 1 ≤ g7 ∧ Bx 47 w #[.int .i64 l0, .string l1, .int .i64 l2, .slice x3 m3 d3, .int .i64 l4, .slice x5 m5 d5, .int .i64 l6, .bool l7, .string l8, .int .i64 l9, .int .i64 l10, .int .i64 l11, .int .i64 l12] w7) := Q7
      clear Q7 K3 K2 K1 K0 FA OA LA O6 Q4
      clear cc0 cc1 cc2 cc3 cc4 cc5 cc6 cc7 cc8 cc9 cc10 cc11 cc12
      obtain ⟨C, hC⟩ : ∃ C, ((headB gen place l0) ++ [byB l10, byB l12] ++ [hiB l11, loB l11]) = C := ⟨_, rfl⟩
      have HC : Hd (((headB gen place l0) ++ [byB l10, byB l12] ++ [hiB l11, loB l11]) = C ∧ C.length ≤ 199 ∧ C.length = 9) := ⟨hC, by rw [← hC]; have := HBL.out; simp only [List.length_append, List.length_cons, List.length_nil] at *; omega, by rw [← hC, List.length_append, List.length_append]; rfl⟩
      clear hC
      have Q9 : Hd (Own w7 g7 c7 C ∧ w.heap.size + 1 ≤ g7 ∧ Bx 47 w #[.int .i64 l0, .string l1, .int .i64 l2, .slice x3 m3 d3, .int .i64 l4, .slice x5 m5 d5, .int .i64 l6, .bool l7, .string l8, .int .i64 l9, .int .i64 l10, .int .i64 l11, .int .i64 l12] w7) := ⟨by rw [← HC.out.1]; exact Q8.out⟩
      clear Q8
      go_wp2_with fail
      refine (specSum_any _ _ _ C _ (Q9.out.1.row.reads HC.out.2.2) (by have := HC.out.2; omega)).mono ?_
      rintro e w8 ⟨rfl, hw⟩
      replace hw := hw.symm
      subst hw
      go_wp2_with fail
      refine (specPutW_some g7 0 _ _ C _ _ HC.out.2.2 (Q9.out.1.cell HC.out.2.2) Q9.out.1.lt (by have := HC.out.2; omega)).mono ?_
      rintro e w9 ⟨g9, c9, rfl, hg, hO, hB⟩
      have HF : Hd (Own w9 g9 c9 (putRecB gen place ⟨l0, ⟨l1, l2, l3, l4, l5, l6, l7⟩, l8, l9, l10, l11, l12⟩) ∧ w.heap.size ≤ g9 ∧ Below w.heap.size w w9) := ⟨by rw [HZ.out, HC.out.1]; exact hO, by have := lt_of_block Q9.out.2.2.box; omega, Below.next Q9.out.2.2.bel hB⟩
      have HN : Hd ((putRecB gen place ⟨l0, ⟨l1, l2, l3, l4, l5, l6, l7⟩, l8, l9, l10, l11, l12⟩).length = C.length + 2) := ⟨by rw [HZ.out, HC.out.1]; unfold summedB; rw [List.length_append]; rfl⟩
      clear hg hO hB Q9
      go_wp2_with fail
      go_ret
      exact ansSl_own (by rw [HN.out, HC.out.2.2]) HF.out.2.1 HF.out.1 HF.out.2.2

end Go.Proofs.YtbeiocngiippgabDoor
