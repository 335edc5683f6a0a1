/- The program: WriteSec. -/
import Derived.Test.YtidbhdlhcmjhkaaDevPt
import Derived.Deep.RegionHeldLaw
namespace Go.Proofs.Ytidbhdlhcmjhkaa
set_option maxRecDepth 4000
open Go.RowKit

theorem opWrite (d : DevD) (n : Int) (b : List UInt8) (h : writeOn d n b = true) : writeD d n b = if opOn d.fuse = true then { d with fuse := opFuse d.fuse, down := opDown d.fuse d.down, cache := d.cache ++ [⟨n, b⟩] } else { d with fuse := opFuse d.fuse, down := opDown d.fuse d.down } := by
  unfold writeD
  rw [if_neg (by rw [h]; simp)]
  by_cases h0 : d.fuse = 0
  · rw [if_pos h0, if_neg (by simp [opOn, h0])]
    simp [opFuse, opDown, h0]
  · rw [if_neg h0, if_pos (by simp [opOn, h0])]
    simp [opFuse, opDown, h0]

set_option maxHeartbeats 4000000 in
theorem implWriteSec_rd (cs : List Value) (d : DevD) (n : Int) (ao : Option Addr) (bl bc : Nat) (bs : List UInt8) (w : World) (h : RdDev w cs d) (hb : RdB w [.slice ao bl bc] bs) (hw : wtDev d ≤ 1073741824) :
    Calls Try.prog 8 #[.agg cs.toArray, .int .i64 n, .slice ao bl bc] w (AnsAgg OwDev (writeD d n bs) w) := by
  have HD : Hd (RdDev w cs d ∧ RdB w [.slice ao bl bc] bs ∧ wtDev d ≤ 1073741824) := ⟨h, hb, hw⟩
  obtain ⟨x0, m0, d0, x1, m1, d1, rfl, r0, r1⟩ := h
  obtain ⟨f, hf⟩ : ∃ f, d.fuse = f := ⟨_, rfl⟩
  obtain ⟨b, hbb⟩ : ∃ b, d.down = b := ⟨_, rfl⟩
  have HL : Hd (d.cache.length = m1 ∧ bs.length = bl ∧ d.fuse = f ∧ d.down = b) := ⟨(rdWrS_parts r1).2.1, (rdB_parts hb).2.1, hf, hbb⟩
  rw [hf, hbb] at HD ⊢
  obtain ⟨R, hR⟩ : ∃ R, writeD d n bs = R := ⟨_, rfl⟩
  have HR : Hd (writeD d n bs = R) := ⟨hR⟩
  rw [hR]
  clear r0 r1 hf hbb hR hb hw
  go_enter Try.func8, Try.ntmps8
  go_wp2_with fail
  refine (implCopyDev_rd _ d _ (rdDev_ok.below HD.out.1 (below_lit2 w _ _)) HD.out.2.2).mono ?_
  rintro e w1 ⟨⟨cs1, rfl, hN⟩, hB⟩
  have HC : Hd (CpAt w #[.slice x0 m0 d0, .slice x1 m1 d1, .int .i64 f, .bool b] w1.heap.size d (w1.alloc (.cells cs1.toArray 27))) := ⟨cpAt_of (Below.next (below_lit2 w _ _) hB) ((hB.block _ (by simp; omega)).trans (laid2 w _ _).1) ((hB.block _ (by simp)).trans (laid2 w _ _).2) (by simp) hN⟩
  obtain ⟨F, hO, _⟩ := hN
  obtain ⟨y0, n0, e0, y1, n1, e1, _, _, hcs, _⟩ := hO
  rw [HL.out.2.2.1, HL.out.2.2.2] at hcs
  subst hcs
  have HBX : Hd ((w1.alloc (.cells #[.slice y0 n0 e0, .slice y1 n1 e1, .int .i64 f, .bool b] 27)).heap[w1.heap.size]? = some (.cells #[.slice y0 n0 e0, .slice y1 n1 e1, .int .i64 f, .bool b] 27 (0, 0))) := ⟨heap_alloc_new w1 _⟩
  clear hB
  obtain ⟨q, hq⟩ : ∃ q, w1.heap.size = q := ⟨_, rfl⟩
  rw [hq] at HC HBX
  obtain ⟨WX, hWX⟩ : ∃ WX, w1.alloc (.cells #[.slice y0 n0 e0, .slice y1 n1 e1, .int .i64 f, .bool b] 27) = WX := ⟨_, rfl⟩
  have P0 : Hd (CpAt w #[.slice x0 m0 d0, .slice x1 m1 d1, .int .i64 f, .bool b] q d WX ∧ WX.heap[q]? = some (.cells #[.slice y0 n0 e0, .slice y1 n1 e1, .int .i64 f, .bool b] 27 (0, 0))) := ⟨by rw [← hWX]; exact ⟨HC.out, HBX.out⟩⟩
  have HWX : Hd (w1.alloc (.cells #[.slice y0 n0 e0, .slice y1 n1 e1, .int .i64 f, .bool b] 27) = WX ∧ w1.heap.size = q) := ⟨hWX, hq⟩
  have c0 := cellsA HC.out.arg 0 rfl
  have c1 := cellsA HC.out.arg 1 rfl
  have c2 := cellsA HC.out.arg 2 rfl
  have c3 := cellsA HC.out.arg 3 rfl
  clear HC HBX hWX hq
  go_wp2_with fail
  rewrite [HWX.out.1, HWX.out.2]
  clear c0 c1 c2 c3 HWX
  refine (implDevOk_rd _ d _ (rdDev_ok.below HD.out.1 P0.out.1.bel)).mono ?_
  rintro e w2 ⟨rfl, hB⟩
  have P1 : Hd (CpAt w #[.slice x0 m0 d0, .slice x1 m1 d1, .int .i64 f, .bool b] q d w2 ∧ w2.heap[q]? = some (.cells #[.slice y0 n0 e0, .slice y1 n1 e1, .int .i64 f, .bool b] 27 (0, 0))) := ⟨P0.out.1.below hB, (hB.block _ (lt_of_block P0.out.2)).trans P0.out.2⟩
  obtain ⟨V, hV⟩ : ∃ V, devOk d = V := ⟨_, rfl⟩
  have HV : Hd (devOk d = V) := ⟨hV⟩
  rewrite [hV]
  clear hB hV P0
  cases V
  · have HE : Hd (R = d) := ⟨by rw [← HR.out]; unfold writeD writeOn; rw [HV.out]; rfl⟩
    clear HV HR
    have c0 := cellsA P1.out.2 0 rfl
    have c1 := cellsA P1.out.2 1 rfl
    have c2 := cellsA P1.out.2 2 rfl
    have c3 := cellsA P1.out.2 3 rfl
    have z0 := cellsA P1.out.1.res 0 rfl
    have z1 := cellsA P1.out.1.res 1 rfl
    have z2 := cellsA P1.out.1.res 2 rfl
    have z3 := cellsA P1.out.1.res 3 rfl
    have s0 := freeA P1.out.1.res 0
    have s1 := freeA P1.out.1.res 1
    have s2 := freeA P1.out.1.res 2
    have s3 := freeA P1.out.1.res 3
    go_wp2_with fail
    refine bodyPost_ret (results_cell_row rfl _ _ (w.heap.size + 1) _ _ (0, 0) _ rfl (P1.out.1.resAt _ _ _ _) Try.underlying27 rfl (by kernel_rfl)) rfl ?_
    rw [HE.out]
    exact P1.out.1.ret P1.out.2
  have c3 := cellsA P1.out.1.arg 3 rfl
  cases b with
  | true =>
    have HE : Hd (R = d) := ⟨by rw [← HR.out]; unfold writeD writeOn; rw [HL.out.2.2.2]; simp⟩
    clear HV HR
    have c0 := cellsA P1.out.2 0 rfl
    have c1 := cellsA P1.out.2 1 rfl
    have c2 := cellsA P1.out.2 2 rfl
    have c4 := cellsA P1.out.2 3 rfl
    have z0 := cellsA P1.out.1.res 0 rfl
    have z1 := cellsA P1.out.1.res 1 rfl
    have z2 := cellsA P1.out.1.res 2 rfl
    have z3 := cellsA P1.out.1.res 3 rfl
    have s0 := freeA P1.out.1.res 0
    have s1 := freeA P1.out.1.res 1
    have s2 := freeA P1.out.1.res 2
    have s3 := freeA P1.out.1.res 3
    go_wp2_with fail
    refine bodyPost_ret (results_cell_row rfl _ _ (w.heap.size + 1) _ _ (0, 0) _ rfl (P1.out.1.resAt _ _ _ _) Try.underlying27 rfl (by kernel_rfl)) rfl ?_
    rw [HE.out]
    exact P1.out.1.ret P1.out.2
  | false =>
    have c0 := cellsA P1.out.1.arg 0 rfl
    have c1 := cellsA P1.out.1.arg 1 rfl
    have c2 := cellsA P1.out.1.arg 2 rfl
    go_wp2_with fail
    refine (implWrFits_rd _ d n ao bl bc _ (rdDev_ok.below HD.out.1 P1.out.1.bel)).mono ?_
    rintro e w3 ⟨rfl, hB⟩
    have P2 : Hd (CpAt w #[.slice x0 m0 d0, .slice x1 m1 d1, .int .i64 f, .bool false] q d w3 ∧ w3.heap[q]? = some (.cells #[.slice y0 n0 e0, .slice y1 n1 e1, .int .i64 f, .bool false] 27 (0, 0))) := ⟨P1.out.1.below hB, (hB.block _ (lt_of_block P1.out.2)).trans P1.out.2⟩
    obtain ⟨V, hV⟩ : ∃ V, wrFitsD d n bl = V := ⟨_, rfl⟩
    have HV2 : Hd (wrFitsD d n bl = V) := ⟨hV⟩
    rewrite [hV]
    clear hB hV P1 c0 c1 c2 c3
    cases V
    · have HE : Hd (R = d) := ⟨by rw [← HR.out]; unfold writeD; rw [if_pos (by unfold writeOn; have h7 := HV2.out; unfold wrFitsD at h7; rw [← HL.out.2.1] at h7; rw [HV.out, Bool.and_assoc, Bool.and_assoc, ← Bool.and_assoc (inSecs d n), h7]; simp)]⟩
      clear HV HV2 HR
      have c0 := cellsA P2.out.2 0 rfl
      have c1 := cellsA P2.out.2 1 rfl
      have c2 := cellsA P2.out.2 2 rfl
      have c3 := cellsA P2.out.2 3 rfl
      have z0 := cellsA P2.out.1.res 0 rfl
      have z1 := cellsA P2.out.1.res 1 rfl
      have z2 := cellsA P2.out.1.res 2 rfl
      have z3 := cellsA P2.out.1.res 3 rfl
      have s0 := freeA P2.out.1.res 0
      have s1 := freeA P2.out.1.res 1
      have s2 := freeA P2.out.1.res 2
      have s3 := freeA P2.out.1.res 3
      go_wp2_with fail
      refine bodyPost_ret (results_cell_row rfl _ _ (w.heap.size + 1) _ _ (0, 0) _ rfl (P2.out.1.resAt _ _ _ _) Try.underlying27 rfl (by kernel_rfl)) rfl ?_
      rw [HE.out]
      exact P2.out.1.ret P2.out.2
    by_cases h40 : (m1 : Int) ≥ 40
    · have HE : Hd (R = d) := ⟨by rw [← HR.out]; unfold writeD; rw [if_pos (by unfold writeOn; rw [HL.out.1, decide_eq_false (by omega : ¬ m1 < 40)]; simp)]⟩
      have c1 := cellsA P2.out.1.arg 1 rfl
      clear HV HV2 HR
      have c0 := cellsA P2.out.2 0 rfl
      have c5 := cellsA P2.out.2 1 rfl
      have c2 := cellsA P2.out.2 2 rfl
      have c3 := cellsA P2.out.2 3 rfl
      have z0 := cellsA P2.out.1.res 0 rfl
      have z1 := cellsA P2.out.1.res 1 rfl
      have z2 := cellsA P2.out.1.res 2 rfl
      have z3 := cellsA P2.out.1.res 3 rfl
      have s0 := freeA P2.out.1.res 0
      have s1 := freeA P2.out.1.res 1
      have s2 := freeA P2.out.1.res 2
      have s3 := freeA P2.out.1.res 3
      go_wp2_with fail
      refine bodyPost_ret (results_cell_row rfl _ _ (w.heap.size + 1) _ _ (0, 0) _ rfl (P2.out.1.resAt _ _ _ _) Try.underlying27 rfl (by kernel_rfl)) rfl ?_
      rw [HE.out]
      exact P2.out.1.ret P2.out.2
    have HON : Hd (writeOn d n bs = true ∧ m1 < 40 ∧ -1 ≤ f ∧ f ≤ 1000) := ⟨by
      have h7 := HV2.out
      unfold wrFitsD at h7
      rw [← HL.out.2.1] at h7
      have h8 := devOk_parts HV.out
      rw [HL.out.2.2.1] at h8
      refine ⟨?_, by omega, h8.2.2.2.2.1, h8.2.2.2.2.2⟩
      unfold writeOn
      rw [HV.out, HL.out.2.2.2, Bool.and_assoc, Bool.and_assoc, ← Bool.and_assoc (inSecs d n), h7, HL.out.1, decide_eq_true (by omega : m1 < 40)]; rfl⟩
    have HE : Hd (R = if opOn f = true then { d with fuse := opFuse f, down := opDown f false, cache := d.cache ++ [⟨n, bs⟩] } else { d with fuse := opFuse f, down := opDown f false }) := ⟨by rw [← HR.out, opWrite d n bs HON.out.1, HL.out.2.2.1, HL.out.2.2.2]⟩
    have c1 := cellsA P2.out.1.arg 1 rfl
    have b0 := cellsA P2.out.2 0 rfl
    have b1 := cellsA P2.out.2 1 rfl
    have b2 := cellsA P2.out.2 2 rfl
    have b3 := cellsA P2.out.2 3 rfl
    clear HV HV2 HR
    go_wp2_with fail
    refine (implOperate_any y0 n0 e0 y1 n1 e1 f false _ ⟨HON.out.2.2⟩).mono ?_
    rintro e w4 ⟨rfl, hB⟩
    obtain ⟨f2, hf2⟩ : ∃ f2, opFuse f = f2 := ⟨_, rfl⟩
    obtain ⟨b2', hb2⟩ : ∃ b2, opDown f false = b2 := ⟨_, rfl⟩
    obtain ⟨O, hO⟩ : ∃ O, opOn f = O := ⟨_, rfl⟩
    rewrite [hf2, hb2, hO]
    replace HE : Hd (R = if O = true then { d with fuse := f2, down := b2', cache := d.cache ++ [⟨n, bs⟩] } else { d with fuse := f2, down := b2' }) := ⟨by rw [← hf2, ← hb2, ← hO]; exact HE.out⟩
    have P3 : Hd (CpAt w #[.slice x0 m0 d0, .slice x1 m1 d1, .int .i64 f, .bool false] q { d with fuse := f2, down := b2' } ((((w4.setCell ⟨q, 0, none⟩ (.slice y0 n0 e0)).setCell ⟨q, 1, none⟩ (.slice y1 n1 e1)).setCell ⟨q, 2, none⟩ (.int .i64 f2)).setCell ⟨q, 3, none⟩ (.bool b2')) ∧ ((((w4.setCell ⟨q, 0, none⟩ (.slice y0 n0 e0)).setCell ⟨q, 1, none⟩ (.slice y1 n1 e1)).setCell ⟨q, 2, none⟩ (.int .i64 f2)).setCell ⟨q, 3, none⟩ (.bool b2')).heap[q]? = some (.cells #[.slice y0 n0 e0, .slice y1 n1 e1, .int .i64 f2, .bool b2'] 27 (0, 0)) ∧ w4.heap[q]? = some (.cells #[.slice y0 n0 e0, .slice y1 n1 e1, .int .i64 f, .bool false] 27 (0, 0))) :=
      ⟨(P2.out.1.setOp (by rw [HL.out.2.2.1, HL.out.2.2.2]; exact P2.out.2) hB f2 b2').1, (P2.out.1.setOp (by rw [HL.out.2.2.1, HL.out.2.2.2]; exact P2.out.2) hB f2 b2').2, (hB.block _ (lt_of_block P2.out.2)).trans P2.out.2⟩
    clear hB hf2 hb2 hO P2 c1 b0 b1 b2 b3
    have b0 := cellsA P3.out.2.2 0 rfl
    have b1 := cellsA P3.out.2.2 1 rfl
    have b2 := cellsA P3.out.2.2 2 rfl
    have b3 := cellsA P3.out.2.2 3 rfl
    have s0 := freeA P3.out.2.2 0
    have s1 := freeA P3.out.2.2 1
    have s2 := freeA P3.out.2.2 2
    have s3 := freeA P3.out.2.2 3
    cases O with
    | false =>
      have HE2 : Hd (R = { d with fuse := f2, down := b2' }) := ⟨by rw [HE.out]; rfl⟩
      have P4 : Hd (CpAt w #[.slice x0 m0 d0, .slice x1 m1 d1, .int .i64 f, .bool false] q { d with fuse := f2, down := b2' } ((((w4.setCell ⟨q, 0, none⟩ (.slice y0 n0 e0)).setCell ⟨q, 1, none⟩ (.slice y1 n1 e1)).setCell ⟨q, 2, none⟩ (.int .i64 f2)).setCell ⟨q, 3, none⟩ (.bool b2')) ∧ ((((w4.setCell ⟨q, 0, none⟩ (.slice y0 n0 e0)).setCell ⟨q, 1, none⟩ (.slice y1 n1 e1)).setCell ⟨q, 2, none⟩ (.int .i64 f2)).setCell ⟨q, 3, none⟩ (.bool b2')).heap[q]? = some (.cells #[.slice y0 n0 e0, .slice y1 n1 e1, .int .i64 f2, .bool b2'] 27 (0, 0))) := ⟨P3.out.1, P3.out.2.1⟩
      clear HE P3
      have c0 := cellsA P4.out.2 0 rfl
      have c1 := cellsA P4.out.2 1 rfl
      have c2 := cellsA P4.out.2 2 rfl
      have c3 := cellsA P4.out.2 3 rfl
      have z0 := cellsA P4.out.1.res 0 rfl
      have z1 := cellsA P4.out.1.res 1 rfl
      have z2 := cellsA P4.out.1.res 2 rfl
      have z3 := cellsA P4.out.1.res 3 rfl
      have r0 := freeA P4.out.1.res 0
      have r1 := freeA P4.out.1.res 1
      have r2 := freeA P4.out.1.res 2
      have r3 := freeA P4.out.1.res 3
      go_wp2_with fail
      refine bodyPost_ret (results_cell_row rfl _ _ (w.heap.size + 1) _ _ (0, 0) _ rfl (P4.out.1.resAt _ _ _ _) Try.underlying27 rfl (by kernel_rfl)) rfl ?_
      rw [HE2.out]
      exact P4.out.1.ret P4.out.2
    | true =>
      have HE2 : Hd (R = { d with fuse := f2, down := b2', cache := d.cache ++ [⟨n, bs⟩] }) := ⟨by rw [HE.out]; rfl⟩
      go_wp2_with fail
      clear b0 b1 b2 b3 s0 s1 s2 s3 HE
      generalize (((w4.setCell ⟨q, 0, none⟩ (.slice y0 n0 e0)).setCell ⟨q, 1, none⟩ (.slice y1 n1 e1)).setCell ⟨q, 2, none⟩ (.int .i64 f2)).setCell ⟨q, 3, none⟩ (.bool b2') = W4 at *
      have P4 : Hd (CpAt w #[.slice x0 m0 d0, .slice x1 m1 d1, .int .i64 f, .bool false] q { d with fuse := f2, down := b2' } W4 ∧ W4.heap[q]? = some (.cells #[.slice y0 n0 e0, .slice y1 n1 e1, .int .i64 f2, .bool b2'] 27 (0, 0))) := ⟨P3.out.1, P3.out.2.1⟩
      obtain ⟨F0, F1, hP⟩ := P4.out.1.splitAt P4.out.2
      have PP : Hd (CpParts w #[.slice x0 m0 d0, .slice x1 m1 d1, .int .i64 f, .bool false] q { d with fuse := f2, down := b2' } y0 n0 e0 y1 n1 e1 F0 F1 W4) := ⟨hP⟩
      have HA : Hd (RdB W4 [.slice ao bl bc] bs ∧ bs.length ≤ 1073741824 ∧ d.cache.length ≤ 40) := ⟨rdB_ok.below HD.out.2.1 P4.out.1.bel, by
        have h7 := HON.out.1
        simp only [writeOn, Bool.and_eq_true, decide_eq_true_eq] at h7
        omega, by rw [HL.out.1]; omega⟩
      obtain ⟨i1, hi1, hz1, hs1, hb1⟩ := info_parts infoWrS
      have c1 := cellsA PP.out.box 1 rfl
      have c1d : W4.drew.cell? ⟨q, 1, none⟩ = some (.slice y1 n1 e1) := cellsA PP.out.box 1 rfl
      have D0 : Hd (Below W4.heap.size W4 W4.drew) := ⟨(Below.refl _ W4).drew⟩
      clear P3 P4 hP HON HD HL
      go_region_law (first
        | (refine step_push rfl owWr_ok (.tmp 39) (.tmp 44) 25 rfl Try.underlying25 hi1 hz1 hs1 hb1 rfl (by omega) (v := .slice y1 n1 e1) rfl HX.out.1 (q := wv.heap.size) (c' := [.int .i64 n, .slice z0 zn zc]) (a' := ⟨n, bs⟩) (G := G) rfl (alloc_new wv _ rfl) rfl (by intro u hu; simp only [List.mem_cons, List.not_mem_nil, or_false] at hu; rcases hu with rfl | rfl <;> rfl) HX.out.2.1 HX.out.2.2.1 (by have := HA.out.2.2; unfold maxLen; omega) (by have := HA.out.2.2; omega) ?_; intro v' wz hpush hgrow; obtain ⟨x2, d2, hv'⟩ : ∃ x2 d2, v' = .slice x2 (d.cache.length + 1) d2 := (by obtain ⟨F', hOw, _⟩ := hpush; obtain ⟨x2, d2, e, _⟩ := owS_slice hOw; rw [List.length_append] at e; exact ⟨x2, d2, e⟩); subst hv'; have HPU : Hd ((∃ F' : Fp, OwWrS wz [.slice x2 (d.cache.length + 1) d2] F' (d.cache ++ [⟨n, bs⟩]) ∧ ∀ x, F' x → F1 x ∨ G x ∨ (wv.alloc (.cells #[.int .i64 n, .slice z0 zn zc] 35)).heap.size ≤ x) ∧ (wv.alloc (.cells #[.int .i64 n, .slice z0 zn zc] 35)).grownBy wz (Value.slice y1 n1 e1).ownBlock) := ⟨hpush, hgrow⟩; have t5 := cellsA ((PP.out.below (Below.next D1.out (below_lit wv _))).boxAt hgrow) 1 rfl; have f5 := freeA ((PP.out.below (Below.next D1.out (below_lit wv _))).boxAt hgrow) 1; clear hpush hgrow)
        | (go_simp; go_at_call 32; refine (clone_rd ao bl bc bs _ (rdB_ok.below HA.out.1 D0.out) HA.out.2.1).mono ?_; rintro e wv ⟨⟨z0, zn, zc, rfl, G, hE, hG⟩, hB⟩; have D1 : Hd (Below W4.heap.size W4 wv) := ⟨Below.next D0.out hB⟩; have t1 := cell_below c1 D1.out; have t2 := cell_below t1 (below_lit wv (.cells #[.int .i64 n, .slice z0 zn zc] 35)); have HX : Hd (OwWrS (wv.alloc (.cells #[.int .i64 n, .slice z0 zn zc] 35)) [.slice y1 n1 e1] F1 d.cache ∧ OwWr (wv.alloc (.cells #[.int .i64 n, .slice z0 zn zc] 35)) [.int .i64 n, .slice z0 zn zc] G ⟨n, bs⟩ ∧ (∀ x, G x → ¬ F1 x) ∧ (∀ x, G x → W4.heap.size ≤ x)) := ⟨owWrS_ok.below PP.out.r1 (Below.next D1.out (below_lit wv _)), owWr_ok.below ⟨z0, zn, zc, G, rfl, hE, fun x => Iff.rfl⟩ (below_lit wv _), fun x hx hy => (by have h7 := hG x hx; have h8 := owWrS_ok.lt PP.out.r1 x hy; have h9 : W4.drew.heap.size = W4.heap.size := rfl; omega), hG⟩; clear hB hE hG))
      all_goals
        obtain ⟨F', hOw, hF'⟩ := HPU.out.1
        have P5 : Hd (CpParts w #[.slice x0 m0 d0, .slice x1 m1 d1, .int .i64 f, .bool false] q { d with fuse := f2, down := b2', cache := d.cache ++ [⟨n, bs⟩] } y0 n0 e0 x2 (d.cache.length + 1) d2 F0 F' (wz.setCell ⟨q, 1, none⟩ (.slice x2 (d.cache.length + 1) d2))) :=
          ⟨(PP.out.below (Below.next D1.out (below_lit wv _))).push hOw hF' HX.out.2.2.2 (lt_of_block PP.out.box) (fun x hx => owByteSS_ok.lt PP.out.r0 x hx) HPU.out.2⟩
        have P6 : Hd (CpAt w #[.slice x0 m0 d0, .slice x1 m1 d1, .int .i64 f, .bool false] q { d with fuse := f2, down := b2', cache := d.cache ++ [⟨n, bs⟩] } (wz.setCell ⟨q, 1, none⟩ (.slice x2 (d.cache.length + 1) d2)) ∧ (wz.setCell ⟨q, 1, none⟩ (.slice x2 (d.cache.length + 1) d2)).heap[q]? = some (.cells #[.slice y0 n0 e0, .slice x2 (d.cache.length + 1) d2, .int .i64 f2, .bool b2'] 27 (0, 0))) := ⟨P5.out.join, P5.out.box⟩
        clear hOw hF' HPU P5 PP HX D0 D1 HA t1 t2 t5 f5 c1 c1d hi1 hz1 hs1 hb1
        have c0 := cellsA P6.out.2 0 rfl
        have c1 := cellsA P6.out.2 1 rfl
        have c2 := cellsA P6.out.2 2 rfl
        have c3 := cellsA P6.out.2 3 rfl
        have z0 := cellsA P6.out.1.res 0 rfl
        have z1 := cellsA P6.out.1.res 1 rfl
        have z2 := cellsA P6.out.1.res 2 rfl
        have z3 := cellsA P6.out.1.res 3 rfl
        have s0 := freeA P6.out.1.res 0
        have s1 := freeA P6.out.1.res 1
        have s2 := freeA P6.out.1.res 2
        have s3 := freeA P6.out.1.res 3
        go_wp2_with fail
        refine bodyPost_ret (results_cell_row rfl _ _ (w.heap.size + 1) _ _ (0, 0) _ rfl (P6.out.1.resAt _ _ _ _) Try.underlying27 rfl (by kernel_rfl)) rfl ?_
        rw [HE2.out]
        exact P6.out.1.ret P6.out.2

end Go.Proofs.Ytidbhdlhcmjhkaa
