/- The specification: WriteSec. -/
import Derived.Test.YtidbhdlhcmjhkaaDevOp
namespace Go.Proofs.Ytidbhdlhcmjhkaa
set_option maxRecDepth 4000
open Go.RowKit

theorem CpAt.bx {w wx w' : World} {A : Array Value} {q : Nat} {d d' : DevD} {F : Fp} (h : CpAt w A q d wx) (hF : ∀ x, F x → w.heap.size + 2 ≤ x) (hB : BxOut q F d' wx w') : CpAt w A q d' w' := by
  have h2 := h.q2
  have ha := lt_of_block h.arg
  have hr := lt_of_block h.res
  obtain ⟨⟨F', hb, hF'⟩, hc⟩ := hB
  refine ⟨h.bel.trans (hc.below (B := w.heap.size) (fun x hx => hx.elim (fun e => by omega) (fun e => by have := hF x e; omega)) h.bel.size), (hc.block _ ha (fun hx => hx.elim (fun e => by omega) (fun e => by have := hF _ e; omega))).trans h.arg, (hc.block _ hr (fun hx => hx.elim (fun e => by omega) (fun e => by have := hF _ e; omega))).trans h.res, ⟨F', hb, fun x hx => ?_⟩, h2⟩
  rcases hF' x hx with h3 | h3
  · exact hF x h3
  · omega

set_option maxHeartbeats 4000000 in
theorem specWriteSec_ow (cs : List Value) (d : DevD) (n : Int) (ao : Option Addr) (bl bc : Nat) (bs : List UInt8) (w : World) (h : RdDev w cs d) (hb : RdB w [.slice ao bl bc] bs) (hw : wtDev d ≤ 1073741824) :
    Calls Try.prog 22 #[.agg cs.toArray, .int .i64 n, .slice ao bl bc] w (AnsAgg OwDev (writeD d n bs) w) := by
  have HD : Hd (RdDev w cs d ∧ RdB w [.slice ao bl bc] bs ∧ wtDev d ≤ 1073741824 ∧ bs.length = bl) := ⟨h, hb, hw, (rdB_parts hb).2.1⟩
  obtain ⟨x0, m0, d0, x1, m1, d1, rfl, r0, r1⟩ := h
  obtain ⟨f, hf⟩ : ∃ f, d.fuse = f := ⟨_, rfl⟩
  obtain ⟨b, hbb⟩ : ∃ b, d.down = b := ⟨_, rfl⟩
  have HL : Hd (d.fuse = f ∧ d.down = b) := ⟨hf, hbb⟩
  rw [hf, hbb] at HD ⊢
  obtain ⟨R, hR⟩ : ∃ R, writeD d n bs = R := ⟨_, rfl⟩
  have HR : Hd (writeD d n bs = R) := ⟨hR⟩
  rw [hR]
  clear r0 r1 hf hbb hR hb hw
  go_enter Try.func22, Try.ntmps22
  go_wp2_with fail
  refine (specL10Copy_rd _ d _ (rdDev_ok.below HD.out.1 (below_lit2 w _ _)) HD.out.2.2.1).mono ?_
  rintro e w1 ⟨⟨cs1, rfl, hN⟩, hB⟩
  have HC : Hd (CpAt w #[.slice x0 m0 d0, .slice x1 m1 d1, .int .i64 f, .bool b] w1.heap.size d (w1.alloc (.cells cs1.toArray 27))) := ⟨cpAt_of (Below.next (below_lit2 w _ _) hB) ((hB.block _ (by simp; omega)).trans (laid2 w _ _).1) ((hB.block _ (by simp)).trans (laid2 w _ _).2) (by simp) hN⟩
  obtain ⟨F, hO, _⟩ := hN
  obtain ⟨y0, n0, e0, y1, n1, e1, _, _, hcs, _⟩ := hO
  rw [HL.out.1, HL.out.2] at hcs
  subst hcs
  have HBX : Hd ((w1.alloc (.cells #[.slice y0 n0 e0, .slice y1 n1 e1, .int .i64 f, .bool b] 27)).heap[w1.heap.size]? = some (.cells #[.slice y0 n0 e0, .slice y1 n1 e1, .int .i64 f, .bool b] 27 (0, 0))) := ⟨heap_alloc_new w1 _⟩
  clear hB
  obtain ⟨q, hq⟩ : ∃ q, w1.heap.size = q := ⟨_, rfl⟩
  rw [hq] at HC HBX
  obtain ⟨WX, hWX⟩ : ∃ WX, w1.alloc (.cells #[.slice y0 n0 e0, .slice y1 n1 e1, .int .i64 f, .bool b] 27) = WX := ⟨_, rfl⟩
  have P0 : Hd (CpAt w #[.slice x0 m0 d0, .slice x1 m1 d1, .int .i64 f, .bool b] q d WX ∧ WX.heap[q]? = some (.cells #[.slice y0 n0 e0, .slice y1 n1 e1, .int .i64 f, .bool b] 27 (0, 0))) := ⟨by rw [← hWX]; exact ⟨HC.out, HBX.out⟩⟩
  have HWX : Hd (w1.alloc (.cells #[.slice y0 n0 e0, .slice y1 n1 e1, .int .i64 f, .bool b] 27) = WX ∧ w1.heap.size = q) := ⟨hWX, hq⟩
  have c0 := cellsA HC.out.arg 0 rfl
  have c1 := cellsA HC.out.arg 1 rfl
  have c2 := cellsA HC.out.arg 2 rfl
  have c3 := cellsA HC.out.arg 3 rfl
  clear HC HBX hWX hq
  go_wp2_with fail
  rewrite [HWX.out.1, HWX.out.2]
  clear c0 c1 c2 c3 HWX
  refine (specDevOk_rd _ d _ (rdDev_ok.below HD.out.1 P0.out.1.bel)).mono ?_
  rintro e w2 ⟨rfl, hB⟩
  have P1 : Hd (CpAt w #[.slice x0 m0 d0, .slice x1 m1 d1, .int .i64 f, .bool b] q d w2 ∧ w2.heap[q]? = some (.cells #[.slice y0 n0 e0, .slice y1 n1 e1, .int .i64 f, .bool b] 27 (0, 0))) := ⟨P0.out.1.below hB, (hB.block _ (lt_of_block P0.out.2)).trans P0.out.2⟩
  obtain ⟨V, hV⟩ : ∃ V, devOk d = V := ⟨_, rfl⟩
  have HV : Hd (devOk d = V) := ⟨hV⟩
  rewrite [hV]
  clear hB hV P0
  cases V
  · have HE : Hd (R = d) := ⟨by rw [← HR.out]; unfold writeD writeOn; rw [HV.out]; rfl⟩
    clear HV HR
    have c0 := cellsA P1.out.2 0 rfl
    have c1 := cellsA P1.out.2 1 rfl
    have c2 := cellsA P1.out.2 2 rfl
    have c3 := cellsA P1.out.2 3 rfl
    have z0 := cellsA P1.out.1.res 0 rfl
    have z1 := cellsA P1.out.1.res 1 rfl
    have z2 := cellsA P1.out.1.res 2 rfl
    have z3 := cellsA P1.out.1.res 3 rfl
    have s0 := freeA P1.out.1.res 0
    have s1 := freeA P1.out.1.res 1
    have s2 := freeA P1.out.1.res 2
    have s3 := freeA P1.out.1.res 3
    go_wp2_with fail
    refine bodyPost_ret (results_cell_row rfl _ _ (w.heap.size + 1) _ _ (0, 0) _ rfl (P1.out.1.resAt _ _ _ _) Try.underlying27 rfl (by kernel_rfl)) rfl ?_
    rw [HE.out]
    exact P1.out.1.ret P1.out.2
  go_wp2_with fail
  obtain ⟨F9, hB9, hF9⟩ := P1.out.1.box
  have HX : Hd (BoxDev w2 q F9 d ∧ (∀ x, F9 x → w.heap.size + 2 ≤ x)) := ⟨hB9, hF9⟩
  refine (specL10Write_rd q F9 d n ao bl bc bs _ HX.out.1 HV.out HD.out.2.2.2 ⟨fun w' hc => rdB_ok.below HD.out.2.1 (P1.out.1.bel.trans (hc.below (B := w.heap.size) (fun x hx => by have := P1.out.1.q2; omega) P1.out.1.bel.size))⟩).mono ?_
  rintro e w3 ⟨rfl, hO⟩
  rewrite [HR.out] at hO
  have P2 : Hd (CpAt w #[.slice x0 m0 d0, .slice x1 m1 d1, .int .i64 f, .bool b] q R w3) := ⟨P1.out.1.bx HX.out.2 hO⟩
  clear hO HX P1 hB9 hF9 HV HR
  obtain ⟨p0, l0, t0, p1, l1, t1, G0, G1, hP⟩ := P2.out.split
  obtain ⟨f2, hf2⟩ : ∃ f2, R.fuse = f2 := ⟨_, rfl⟩
  obtain ⟨b2, hb2⟩ : ∃ b2, R.down = b2 := ⟨_, rfl⟩
  have HB : Hd (w3.heap[q]? = some (.cells #[.slice p0 l0 t0, .slice p1 l1 t1, .int .i64 f2, .bool b2] 27 (0, 0))) := ⟨by have h7 := hP.box; rw [hf2, hb2] at h7; exact h7⟩
  clear hP hf2 hb2
  have c0 := cellsA HB.out 0 rfl
  have c1 := cellsA HB.out 1 rfl
  have c2 := cellsA HB.out 2 rfl
  have c3 := cellsA HB.out 3 rfl
  have z0 := cellsA P2.out.res 0 rfl
  have z1 := cellsA P2.out.res 1 rfl
  have z2 := cellsA P2.out.res 2 rfl
  have z3 := cellsA P2.out.res 3 rfl
  have s0 := freeA P2.out.res 0
  have s1 := freeA P2.out.res 1
  have s2 := freeA P2.out.res 2
  have s3 := freeA P2.out.res 3
  go_wp2_with fail
  refine bodyPost_ret (results_cell_row rfl _ _ (w.heap.size + 1) _ _ (0, 0) _ rfl (P2.out.resAt _ _ _ _) Try.underlying27 rfl (by kernel_rfl)) rfl ?_
  exact P2.out.ret HB.out

theorem specWriteSec_rd (cs : List Value) (d : DevD) (n : Int) (ao : Option Addr) (bl bc : Nat) (bs : List UInt8) (w : World) (h : RdDev w cs d) (hb : RdB w [.slice ao bl bc] bs) (hw : wtDev d ≤ 1073741824) (_ : bs.length ≤ 1073741824) :
    Calls Try.prog 22 #[.agg cs.toArray, .int .i64 n, .slice ao bl bc] w (AnsR RdDev (writeD d n bs) w) := (specWriteSec_ow cs d n ao bl bc bs w h hb hw).mono (fun _ _ h => h.toR owDev_ok)
theorem implWriteSec_wt (cs : List Value) (d : DevD) (n : Int) (ao : Option Addr) (bl bc : Nat) (bs : List UInt8) (w : World) (h : RdDev w cs d) (hb : RdB w [.slice ao bl bc] bs) (hw : wtDev d ≤ 1073741824) (_ : bs.length ≤ 1073741824) :
    Calls Try.prog 8 #[.agg cs.toArray, .int .i64 n, .slice ao bl bc] w (AnsAgg OwDev (writeD d n bs) w) := implWriteSec_rd cs d n ao bl bc bs w h hb hw

end Go.Proofs.Ytidbhdlhcmjhkaa
