/- The program: FlushDev. -/
import Derived.Test.YtidbhdlhcmjhkaaDevSe
import Derived.Test.YtidbhdlhcmjhkaaDevX
import Derived.Test.YtidbhdlhcmjhkaaDevWt
namespace Go.Proofs.Ytidbhdlhcmjhkaa
set_option maxRecDepth 4000
open Go.RowKit

theorem opFlush (d : DevD) (h : (devOk d && !d.down) = true) : flushD d = if opOn d.fuse = true then { secs := putL d.secs d.cache, cache := [], fuse := opFuse d.fuse, down := opDown d.fuse d.down } else { d with fuse := opFuse d.fuse, down := opDown d.fuse d.down } := by
  unfold flushD
  rw [if_neg (by rw [h]; simp)]
  by_cases h0 : d.fuse = 0
  · rw [if_pos h0, if_neg (by simp [opOn, h0])]
    simp [opFuse, opDown, h0]
  · rw [if_neg h0, if_pos (by simp [opOn, h0])]
    simp [opFuse, opDown, h0]
theorem CpParts.secs {w wx wy : World} {A : Array Value} {q : Nat} {d : DevD} {x0 : Option Addr} {m0 d0 : Nat} {x1 : Option Addr} {m1 d1 : Nat} {F0 F1 F' : Fp} (h : CpParts w A q d x0 m0 d0 x1 m1 d1 F0 F1 wx) (hc : Chg wx wy F0) {c' : List (List UInt8)}
    (hO : OwByteSS wy [.slice x0 m0 d0] F' c') (hF' : ∀ x, F' x → F0 x ∨ wx.heap.size ≤ x) : CpParts w A q { d with secs := c' } x0 m0 d0 x1 m1 d1 F' F1 wy := by
  have hr := lt_of_block h.res
  have hq := lt_of_block h.box
  refine ⟨h.bel.trans (hc.below (B := w.heap.size) (fun x hx => by have := (h.low0 x hx).1; omega) h.bel.size), (hc.block _ (lt_of_block h.arg) (fun hx => by have := (h.low0 _ hx).1; omega)).trans h.arg, (hc.block _ hr (fun hx => by have := (h.low0 _ hx).1; omega)).trans h.res, (hc.block q hq (fun hx => (h.low0 q hx).2 rfl)).trans h.box, hO, owWrS_ok.chg h.r1 hc (fun x hx hy => h.dis x hy hx), fun x hx hy => ?_, fun x hx => ?_, h.low1, h.q2⟩
  · rcases hF' x hx with h1 | h1
    · exact h.dis x h1 hy
    · have := owWrS_ok.lt h.r1 x hy; omega
  · rcases hF' x hx with h1 | h1
    · exact h.low0 x h1
    · exact ⟨by omega, by omega⟩
theorem CpParts.empty {w wx : World} {A : Array Value} {q : Nat} {d : DevD} {x0 : Option Addr} {m0 d0 : Nat} {x1 : Option Addr} {m1 d1 : Nat} {F0 F1 : Fp} (h : CpParts w A q d x0 m0 d0 x1 m1 d1 F0 F1 wx) :
    CpParts w A q { d with cache := [] } x0 m0 d0 none 0 0 F0 (fun _ => False) (wx.setCell ⟨q, 1, none⟩ (.slice none 0 0)) := by
  have h2 := h.q2
  exact ⟨bset h.bel _ (by omega), block_set h.arg (by omega), block_set h.res (by omega), setA h.box 1 _ rfl, owByteSS_ok.keep h.r0 (fun x hx => block_set rfl (h.low0 x hx).2), owS_nil _ 2 35 OwWr, fun _ _ hx => hx, h.low0, fun _ hx => hx.elim, h2⟩

set_option maxHeartbeats 4000000 in
theorem implFlushDev_rd (cs : List Value) (d : DevD) (w : World) (h : RdDev w cs d) (hw : wtDev d ≤ 1073741824) :
    Calls Try.prog 9 #[.agg cs.toArray] w (AnsAgg OwDev (flushD d) w) := by
  have h' := h
  obtain ⟨x0, m0, d0, x1, m1, d1, rfl, r0, r1⟩ := h
  obtain ⟨f, hf⟩ : ∃ f, d.fuse = f := ⟨_, rfl⟩
  obtain ⟨b, hbb⟩ : ∃ b, d.down = b := ⟨_, rfl⟩
  have HL : Hd (d.cache.length = m1 ∧ d.secs.length = m0 ∧ d.fuse = f ∧ d.down = b) := ⟨(rdWrS_parts r1).2.1, (rdByteSS_parts r0).2.1, hf, hbb⟩
  have HC9 : Hd (RdWrS w [.slice x1 m1 d1] d.cache) := ⟨r1⟩
  rw [hf, hbb] at h' ⊢
  have HD : Hd (RdDev w [.slice x0 m0 d0, .slice x1 m1 d1, .int .i64 f, .bool b] d ∧ wtDev d ≤ 1073741824) := ⟨h', hw⟩
  obtain ⟨R, hR⟩ : ∃ R, flushD d = R := ⟨_, rfl⟩
  have HR : Hd (flushD d = R) := ⟨hR⟩
  rw [hR]
  clear r0 r1 hf hbb hR hw h'
  go_enter Try.func9, Try.ntmps9
  go_wp2_with fail
  refine (implCopyDev_rd _ d _ (rdDev_ok.below HD.out.1 (below_lit2 w _ _)) HD.out.2).mono ?_
  rintro e w1 ⟨⟨cs1, rfl, hN⟩, hB⟩
  have HC : Hd (CpAt w #[.slice x0 m0 d0, .slice x1 m1 d1, .int .i64 f, .bool b] w1.heap.size d (w1.alloc (.cells cs1.toArray 27))) := ⟨cpAt_of (Below.next (below_lit2 w _ _) hB) ((hB.block _ (by simp; omega)).trans (laid2 w _ _).1) ((hB.block _ (by simp)).trans (laid2 w _ _).2) (by simp) hN⟩
  obtain ⟨F, hO, _⟩ := hN
  obtain ⟨y0, n0, e0, y1, n1, e1, _, _, hcs, _⟩ := hO
  rw [HL.out.2.2.1, HL.out.2.2.2] at hcs
  subst hcs
  have HBX : Hd ((w1.alloc (.cells #[.slice y0 n0 e0, .slice y1 n1 e1, .int .i64 f, .bool b] 27)).heap[w1.heap.size]? = some (.cells #[.slice y0 n0 e0, .slice y1 n1 e1, .int .i64 f, .bool b] 27 (0, 0))) := ⟨heap_alloc_new w1 _⟩
  clear hB
  obtain ⟨q, hq⟩ : ∃ q, w1.heap.size = q := ⟨_, rfl⟩
  rw [hq] at HC HBX
  obtain ⟨WX, hWX⟩ : ∃ WX, w1.alloc (.cells #[.slice y0 n0 e0, .slice y1 n1 e1, .int .i64 f, .bool b] 27) = WX := ⟨_, rfl⟩
  have P0 : Hd (CpAt w #[.slice x0 m0 d0, .slice x1 m1 d1, .int .i64 f, .bool b] q d WX ∧ WX.heap[q]? = some (.cells #[.slice y0 n0 e0, .slice y1 n1 e1, .int .i64 f, .bool b] 27 (0, 0))) := ⟨by rw [← hWX]; exact ⟨HC.out, HBX.out⟩⟩
  have HWX : Hd (w1.alloc (.cells #[.slice y0 n0 e0, .slice y1 n1 e1, .int .i64 f, .bool b] 27) = WX ∧ w1.heap.size = q) := ⟨hWX, hq⟩
  have c0 := cellsA HC.out.arg 0 rfl
  have c1 := cellsA HC.out.arg 1 rfl
  have c2 := cellsA HC.out.arg 2 rfl
  have c3 := cellsA HC.out.arg 3 rfl
  clear HC HBX hWX hq
  go_wp2_with fail
  rewrite [HWX.out.1, HWX.out.2]
  clear c0 c1 c2 c3 HWX
  refine (implDevOk_rd _ d _ (rdDev_ok.below HD.out.1 P0.out.1.bel)).mono ?_
  rintro e w2 ⟨rfl, hB⟩
  have P1 : Hd (CpAt w #[.slice x0 m0 d0, .slice x1 m1 d1, .int .i64 f, .bool b] q d w2 ∧ w2.heap[q]? = some (.cells #[.slice y0 n0 e0, .slice y1 n1 e1, .int .i64 f, .bool b] 27 (0, 0))) := ⟨P0.out.1.below hB, (hB.block _ (lt_of_block P0.out.2)).trans P0.out.2⟩
  obtain ⟨V, hV⟩ : ∃ V, devOk d = V := ⟨_, rfl⟩
  have HV : Hd (devOk d = V) := ⟨hV⟩
  rewrite [hV]
  clear hB hV P0
  cases V
  · have HE : Hd (R = d) := ⟨by rw [← HR.out]; unfold flushD; rw [HV.out]; rfl⟩
    clear HV HR
    have c0 := cellsA P1.out.2 0 rfl
    have c1 := cellsA P1.out.2 1 rfl
    have c2 := cellsA P1.out.2 2 rfl
    have c3 := cellsA P1.out.2 3 rfl
    have z0 := cellsA P1.out.1.res 0 rfl
    have z1 := cellsA P1.out.1.res 1 rfl
    have z2 := cellsA P1.out.1.res 2 rfl
    have z3 := cellsA P1.out.1.res 3 rfl
    have s0 := freeA P1.out.1.res 0
    have s1 := freeA P1.out.1.res 1
    have s2 := freeA P1.out.1.res 2
    have s3 := freeA P1.out.1.res 3
    go_wp2_with fail
    refine bodyPost_ret (results_cell_row rfl _ _ (w.heap.size + 1) _ _ (0, 0) _ rfl (P1.out.1.resAt _ _ _ _) Try.underlying27 rfl (by kernel_rfl)) rfl ?_
    rw [HE.out]
    exact P1.out.1.ret P1.out.2
  have c3 := cellsA P1.out.1.arg 3 rfl
  cases b with
  | true =>
    have HE : Hd (R = d) := ⟨by rw [← HR.out]; unfold flushD; rw [HL.out.2.2.2]; simp⟩
    clear HV HR
    have c0 := cellsA P1.out.2 0 rfl
    have c1 := cellsA P1.out.2 1 rfl
    have c2 := cellsA P1.out.2 2 rfl
    have c4 := cellsA P1.out.2 3 rfl
    have z0 := cellsA P1.out.1.res 0 rfl
    have z1 := cellsA P1.out.1.res 1 rfl
    have z2 := cellsA P1.out.1.res 2 rfl
    have z3 := cellsA P1.out.1.res 3 rfl
    have s0 := freeA P1.out.1.res 0
    have s1 := freeA P1.out.1.res 1
    have s2 := freeA P1.out.1.res 2
    have s3 := freeA P1.out.1.res 3
    go_wp2_with fail
    refine bodyPost_ret (results_cell_row rfl _ _ (w.heap.size + 1) _ _ (0, 0) _ rfl (P1.out.1.resAt _ _ _ _) Try.underlying27 rfl (by kernel_rfl)) rfl ?_
    rw [HE.out]
    exact P1.out.1.ret P1.out.2
  | false =>
    obtain ⟨a1, a2, a3, a4, a5, a6⟩ := devOk_parts HV.out
    rw [HL.out.2.1] at a2 a3
    rw [HL.out.1] at a4
    rw [HL.out.2.2.1] at a5 a6
    have HE : Hd (R = if opOn f = true then { secs := putL d.secs d.cache, cache := [], fuse := opFuse f, down := opDown f false } else { d with fuse := opFuse f, down := opDown f false }) := ⟨by rw [← HR.out, opFlush d (by rw [HV.out, HL.out.2.2.2]; rfl), HL.out.2.2.1, HL.out.2.2.2]⟩
    have HO : Hd ((∀ s ∈ d.secs, s.length ≤ 120) ∧ (∀ q ∈ d.cache, (0 ≤ q.n ∧ q.n ≤ (m0 : Int) - 1) ∧ q.b.length ≤ 120) ∧ (1 ≤ m0 ∧ m0 ≤ 64) ∧ m1 ≤ 40 ∧ -1 ≤ f ∧ f ≤ 1000) := ⟨a1, a2, a3, a4, a5, a6⟩
    have b0 := cellsA P1.out.2 0 rfl
    have b1 := cellsA P1.out.2 1 rfl
    have b2 := cellsA P1.out.2 2 rfl
    have b3 := cellsA P1.out.2 3 rfl
    clear HV HR a1 a2 a3 a4 a5 a6
    go_wp2_with fail
    refine (implOperate_any y0 n0 e0 y1 n1 e1 f false _ ⟨HO.out.2.2.2.2⟩).mono ?_
    rintro e w4 ⟨rfl, hB⟩
    obtain ⟨f2, hf2⟩ : ∃ f2, opFuse f = f2 := ⟨_, rfl⟩
    obtain ⟨b2', hb2⟩ : ∃ b2, opDown f false = b2 := ⟨_, rfl⟩
    obtain ⟨O, hO⟩ : ∃ O, opOn f = O := ⟨_, rfl⟩
    rewrite [hf2, hb2, hO]
    replace HE : Hd (R = if O = true then { secs := putL d.secs d.cache, cache := [], fuse := f2, down := b2' } else { d with fuse := f2, down := b2' }) := ⟨by rw [← hf2, ← hb2, ← hO]; exact HE.out⟩
    have P3 : Hd (CpAt w #[.slice x0 m0 d0, .slice x1 m1 d1, .int .i64 f, .bool false] q { d with fuse := f2, down := b2' } ((((w4.setCell ⟨q, 0, none⟩ (.slice y0 n0 e0)).setCell ⟨q, 1, none⟩ (.slice y1 n1 e1)).setCell ⟨q, 2, none⟩ (.int .i64 f2)).setCell ⟨q, 3, none⟩ (.bool b2')) ∧ ((((w4.setCell ⟨q, 0, none⟩ (.slice y0 n0 e0)).setCell ⟨q, 1, none⟩ (.slice y1 n1 e1)).setCell ⟨q, 2, none⟩ (.int .i64 f2)).setCell ⟨q, 3, none⟩ (.bool b2')).heap[q]? = some (.cells #[.slice y0 n0 e0, .slice y1 n1 e1, .int .i64 f2, .bool b2'] 27 (0, 0)) ∧ w4.heap[q]? = some (.cells #[.slice y0 n0 e0, .slice y1 n1 e1, .int .i64 f, .bool false] 27 (0, 0))) :=
      ⟨(P1.out.1.setOp (by rw [HL.out.2.2.1, HL.out.2.2.2]; exact P1.out.2) hB f2 b2').1, (P1.out.1.setOp (by rw [HL.out.2.2.1, HL.out.2.2.2]; exact P1.out.2) hB f2 b2').2, (hB.block _ (lt_of_block P1.out.2)).trans P1.out.2⟩
    clear hB hf2 hb2 hO P1 c3 b0 b1 b2 b3
    have b0 := cellsA P3.out.2.2 0 rfl
    have b1 := cellsA P3.out.2.2 1 rfl
    have b2 := cellsA P3.out.2.2 2 rfl
    have b3 := cellsA P3.out.2.2 3 rfl
    have s0 := freeA P3.out.2.2 0
    have s1 := freeA P3.out.2.2 1
    have s2 := freeA P3.out.2.2 2
    have s3 := freeA P3.out.2.2 3
    cases O with
    | false =>
      have HE2 : Hd (R = { d with fuse := f2, down := b2' }) := ⟨by rw [HE.out]; rfl⟩
      have P4 : Hd (CpAt w #[.slice x0 m0 d0, .slice x1 m1 d1, .int .i64 f, .bool false] q { d with fuse := f2, down := b2' } ((((w4.setCell ⟨q, 0, none⟩ (.slice y0 n0 e0)).setCell ⟨q, 1, none⟩ (.slice y1 n1 e1)).setCell ⟨q, 2, none⟩ (.int .i64 f2)).setCell ⟨q, 3, none⟩ (.bool b2')) ∧ ((((w4.setCell ⟨q, 0, none⟩ (.slice y0 n0 e0)).setCell ⟨q, 1, none⟩ (.slice y1 n1 e1)).setCell ⟨q, 2, none⟩ (.int .i64 f2)).setCell ⟨q, 3, none⟩ (.bool b2')).heap[q]? = some (.cells #[.slice y0 n0 e0, .slice y1 n1 e1, .int .i64 f2, .bool b2'] 27 (0, 0))) := ⟨P3.out.1, P3.out.2.1⟩
      clear HE P3
      have c0 := cellsA P4.out.2 0 rfl
      have c1 := cellsA P4.out.2 1 rfl
      have c2 := cellsA P4.out.2 2 rfl
      have c3 := cellsA P4.out.2 3 rfl
      have z0 := cellsA P4.out.1.res 0 rfl
      have z1 := cellsA P4.out.1.res 1 rfl
      have z2 := cellsA P4.out.1.res 2 rfl
      have z3 := cellsA P4.out.1.res 3 rfl
      have r0 := freeA P4.out.1.res 0
      have r1 := freeA P4.out.1.res 1
      have r2 := freeA P4.out.1.res 2
      have r3 := freeA P4.out.1.res 3
      go_wp2_with fail
      refine bodyPost_ret (results_cell_row rfl _ _ (w.heap.size + 1) _ _ (0, 0) _ rfl (P4.out.1.resAt _ _ _ _) Try.underlying27 rfl (by kernel_rfl)) rfl ?_
      rw [HE2.out]
      exact P4.out.1.ret P4.out.2
    | true =>
      have HE2 : Hd (R = { secs := putL d.secs d.cache, cache := [], fuse := f2, down := b2' }) := ⟨by rw [HE.out]; rfl⟩
      have c1 := cellsA P3.out.1.arg 1 rfl
      have c0 := cellsA P3.out.2.1 0 rfl
      go_wp2_with fail
      clear b0 b1 b2 b3 s0 s1 s2 s3 HE c0 c1
      generalize ((((w4.setCell ⟨q, 0, none⟩ (.slice y0 n0 e0)).setCell ⟨q, 1, none⟩ (.slice y1 n1 e1)).setCell ⟨q, 2, none⟩ (.int .i64 f2)).setCell ⟨q, 3, none⟩ (.bool b2')) = W4 at *
      have P4 : Hd (CpAt w #[.slice x0 m0 d0, .slice x1 m1 d1, .int .i64 f, .bool false] q { d with fuse := f2, down := b2' } W4 ∧ W4.heap[q]? = some (.cells #[.slice y0 n0 e0, .slice y1 n1 e1, .int .i64 f2, .bool b2'] 27 (0, 0))) := ⟨P3.out.1, P3.out.2.1⟩
      obtain ⟨F0, F1, hP⟩ := P4.out.1.splitAt P4.out.2
      have hn0 := (owS_len hP.r0).1
      have hn1 : n0 = m0 := hn0.symm.trans HL.out.2.1
      have PP : Hd (CpParts w #[.slice x0 m0 d0, .slice x1 m1 d1, .int .i64 f, .bool false] q { d with fuse := f2, down := b2' } y0 n0 e0 y1 n1 e1 F0 F1 W4 ∧ n0 = m0) := ⟨hP, hn1⟩
      obtain ⟨ao, cc, hsl, hcase⟩ := owS_slice hP.r0
      obtain ⟨g, hg⟩ : ∃ g, y0 = some ⟨g, 0, none⟩ := by
        simp only [Value.slice.injEq] at hsl
        rcases hcase with ⟨h1, h2⟩ | ⟨g, h1, _⟩
        · have h3 := HL.out.2.1; have h4 := HO.out.2.2.1; rw [show d.secs = [] from h2] at h3; simp at h3; omega
        · exact ⟨g, hsl.1.trans h1⟩
      subst hg
      clear hP P3 P4 hn0 hn1 hsl hcase
      refine (implSettle_any w g n0 e0 d.secs F0 x1 m1 d1 d.cache _ PP.out.1.bel (fun x hx => by have := (PP.out.1.low0 x hx).1; omega) PP.out.1.r0 (rdWrOn_of HC9.out PP.out.1.bel) (by have := HO.out.2.2.2.1; omega) (fun q hq => by rw [PP.out.2]; exact HO.out.2.1 q hq) (by rw [PP.out.2]; exact HO.out.2.2.1.2) HO.out.1).mono ?_
      rintro e w5 ⟨rfl, hc, F', hO5, hF5⟩
      have P5 : Hd (CpParts w #[.slice x0 m0 d0, .slice x1 m1 d1, .int .i64 f, .bool false] q { secs := putL d.secs d.cache, cache := d.cache, fuse := f2, down := b2' } (some ⟨g, 0, none⟩) n0 e0 y1 n1 e1 F' F1 w5) := ⟨PP.out.1.secs hc hO5 hF5⟩
      have P6 : Hd (CpAt w #[.slice x0 m0 d0, .slice x1 m1 d1, .int .i64 f, .bool false] q { secs := putL d.secs d.cache, cache := [], fuse := f2, down := b2' } (w5.setCell ⟨q, 1, none⟩ (.slice none 0 0)) ∧ (w5.setCell ⟨q, 1, none⟩ (.slice none 0 0)).heap[q]? = some (.cells #[.slice (some ⟨g, 0, none⟩) n0 e0, .slice none 0 0, .int .i64 f2, .bool b2'] 27 (0, 0))) := ⟨P5.out.empty.join, P5.out.empty.box⟩
      have k1 := cellsA P5.out.box 1 rfl
      have k2 := freeA P5.out.box 1
      clear hc hO5 hF5 PP P5 HO
      have c0 := cellsA P6.out.2 0 rfl
      have c1 := cellsA P6.out.2 1 rfl
      have c2 := cellsA P6.out.2 2 rfl
      have c3 := cellsA P6.out.2 3 rfl
      have z0 := cellsA P6.out.1.res 0 rfl
      have z1 := cellsA P6.out.1.res 1 rfl
      have z2 := cellsA P6.out.1.res 2 rfl
      have z3 := cellsA P6.out.1.res 3 rfl
      have s0 := freeA P6.out.1.res 0
      have s1 := freeA P6.out.1.res 1
      have s2 := freeA P6.out.1.res 2
      have s3 := freeA P6.out.1.res 3
      go_wp2_with fail
      refine bodyPost_ret (results_cell_row rfl _ _ (w.heap.size + 1) _ _ (0, 0) _ rfl (P6.out.1.resAt _ _ _ _) Try.underlying27 rfl (by kernel_rfl)) rfl ?_
      rw [HE2.out]
      exact P6.out.1.ret P6.out.2

end Go.Proofs.Ytidbhdlhcmjhkaa
