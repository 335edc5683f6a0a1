/- The program: FallDev. -/
import Derived.Test.YtidbhdlhcmjhkaaDevFl
import Derived.Test.YtidbhdlhcmjhkaaDevKx
import Derived.Deep.RegionHeld3
namespace Go.Proofs.Ytidbhdlhcmjhkaa
set_option maxRecDepth 4000
open Go.RowKit

theorem CpParts.flags2 {w wx : World} {A : Array Value} {q : Nat} {d : DevD} {x0 : Option Addr} {m0 d0 : Nat} {x1 : Option Addr} {m1 d1 : Nat} {F0 F1 : Fp} (h : CpParts w A q d x0 m0 d0 x1 m1 d1 F0 F1 wx) (f : Int) (b : Bool) :
    ((wx.setCell ⟨q, 2, none⟩ (.int .i64 f)).setCell ⟨q, 3, none⟩ (.bool b)).heap[q]? = some (.cells #[.slice x0 m0 d0, .slice x1 m1 d1, .int .i64 f, .bool b] 27 (0, 0)) := setA (setA h.box 2 _ rfl) 3 _ rfl
theorem CpParts.flags {w wx : World} {A : Array Value} {q : Nat} {d : DevD} {x0 : Option Addr} {m0 d0 : Nat} {x1 : Option Addr} {m1 d1 : Nat} {F0 F1 : Fp} (h : CpParts w A q d x0 m0 d0 x1 m1 d1 F0 F1 wx) (f : Int) (b : Bool) :
    CpAt w A q { d with fuse := f, down := b } ((wx.setCell ⟨q, 2, none⟩ (.int .i64 f)).setCell ⟨q, 3, none⟩ (.bool b)) := by
  have h2 := h.q2
  have n0 : ∀ x, F0 x → x ≠ q := fun x hx => (h.low0 x hx).2
  have n1 : ∀ x, F1 x → x ≠ q := fun x hx => (h.low1 x hx).2
  exact CpParts.join (d := { d with fuse := f, down := b }) ⟨bset (bset h.bel _ (by omega)) _ (by omega), block_set (block_set h.arg (by omega)) (by omega), block_set (block_set h.res (by omega)) (by omega), h.flags2 f b, owByteSS_ok.keep h.r0 (fun x hx => block_set (block_set rfl (n0 x hx)) (n0 x hx)), owWrS_ok.keep h.r1 (fun x hx => block_set (block_set rfl (n1 x hx)) (n1 x hx)), h.dis, h.low0, h.low1, h2⟩

set_option maxHeartbeats 4000000 in
theorem implFallDev_rd (cs : List Value) (d : DevD) (keep : Int) (w : World) (h : RdDev w cs d) (hw : wtDev d ≤ 1073741824) :
    Calls Try.prog 10 #[.agg cs.toArray, .int .i64 keep] w (AnsAgg OwDev (fallD d keep) w) := by
  have h' := h
  obtain ⟨x0, m0, d0, x1, m1, d1, rfl, r0, r1⟩ := h
  obtain ⟨f, hf⟩ : ∃ f, d.fuse = f := ⟨_, rfl⟩
  obtain ⟨b, hbb⟩ : ∃ b, d.down = b := ⟨_, rfl⟩
  have HL : Hd (d.cache.length = m1 ∧ d.secs.length = m0 ∧ d.fuse = f ∧ d.down = b) := ⟨(rdWrS_parts r1).2.1, (rdByteSS_parts r0).2.1, hf, hbb⟩
  have HC9 : Hd (RdWrS w [.slice x1 m1 d1] d.cache) := ⟨r1⟩
  rw [hf, hbb] at h' ⊢
  have HD : Hd (RdDev w [.slice x0 m0 d0, .slice x1 m1 d1, .int .i64 f, .bool b] d ∧ wtDev d ≤ 1073741824) := ⟨h', hw⟩
  obtain ⟨R, hR⟩ : ∃ R, fallD d keep = R := ⟨_, rfl⟩
  have HR : Hd (fallD d keep = R) := ⟨hR⟩
  rw [hR]
  clear r0 r1 hf hbb hR hw h'
  go_enter Try.func10, Try.ntmps10
  go_wp2_with fail
  refine (implCopyDev_rd _ d _ (rdDev_ok.below HD.out.1 (below_lit2 w _ _)) HD.out.2).mono ?_
  rintro e w1 ⟨⟨cs1, rfl, hN⟩, hB⟩
  have HC : Hd (CpAt w #[.slice x0 m0 d0, .slice x1 m1 d1, .int .i64 f, .bool b] w1.heap.size d (w1.alloc (.cells cs1.toArray 27))) := ⟨cpAt_of (Below.next (below_lit2 w _ _) hB) ((hB.block _ (by simp; omega)).trans (laid2 w _ _).1) ((hB.block _ (by simp)).trans (laid2 w _ _).2) (by simp) hN⟩
  obtain ⟨F, hO, _⟩ := hN
  obtain ⟨y0, n0, e0, y1, n1, e1, _, _, hcs, _⟩ := hO
  rw [HL.out.2.2.1, HL.out.2.2.2] at hcs
  subst hcs
  have HBX : Hd ((w1.alloc (.cells #[.slice y0 n0 e0, .slice y1 n1 e1, .int .i64 f, .bool b] 27)).heap[w1.heap.size]? = some (.cells #[.slice y0 n0 e0, .slice y1 n1 e1, .int .i64 f, .bool b] 27 (0, 0))) := ⟨heap_alloc_new w1 _⟩
  clear hB
  obtain ⟨q, hq⟩ : ∃ q, w1.heap.size = q := ⟨_, rfl⟩
  rw [hq] at HC HBX
  obtain ⟨WX, hWX⟩ : ∃ WX, w1.alloc (.cells #[.slice y0 n0 e0, .slice y1 n1 e1, .int .i64 f, .bool b] 27) = WX := ⟨_, rfl⟩
  have P0 : Hd (CpAt w #[.slice x0 m0 d0, .slice x1 m1 d1, .int .i64 f, .bool b] q d WX ∧ WX.heap[q]? = some (.cells #[.slice y0 n0 e0, .slice y1 n1 e1, .int .i64 f, .bool b] 27 (0, 0))) := ⟨by rw [← hWX]; exact ⟨HC.out, HBX.out⟩⟩
  have HWX : Hd (w1.alloc (.cells #[.slice y0 n0 e0, .slice y1 n1 e1, .int .i64 f, .bool b] 27) = WX ∧ w1.heap.size = q) := ⟨hWX, hq⟩
  have c0 := cellsA HC.out.arg 0 rfl
  have c1 := cellsA HC.out.arg 1 rfl
  have c2 := cellsA HC.out.arg 2 rfl
  have c3 := cellsA HC.out.arg 3 rfl
  clear HC HBX hWX hq
  go_wp2_with fail
  rewrite [HWX.out.1, HWX.out.2]
  clear c0 c1 c2 c3 HWX
  refine (implDevOk_rd _ d _ (rdDev_ok.below HD.out.1 P0.out.1.bel)).mono ?_
  rintro e w2 ⟨rfl, hB⟩
  have P1 : Hd (CpAt w #[.slice x0 m0 d0, .slice x1 m1 d1, .int .i64 f, .bool b] q d w2 ∧ w2.heap[q]? = some (.cells #[.slice y0 n0 e0, .slice y1 n1 e1, .int .i64 f, .bool b] 27 (0, 0))) := ⟨P0.out.1.below hB, (hB.block _ (lt_of_block P0.out.2)).trans P0.out.2⟩
  obtain ⟨V, hV⟩ : ∃ V, devOk d = V := ⟨_, rfl⟩
  have HV : Hd (devOk d = V) := ⟨hV⟩
  rewrite [hV]
  clear hB hV P0
  cases V
  · have HE : Hd (R = d) := ⟨by rw [← HR.out]; unfold fallD; rw [HV.out]; rfl⟩
    clear HV HR
    have c0 := cellsA P1.out.2 0 rfl
    have c1 := cellsA P1.out.2 1 rfl
    have c2 := cellsA P1.out.2 2 rfl
    have c3 := cellsA P1.out.2 3 rfl
    have z0 := cellsA P1.out.1.res 0 rfl
    have z1 := cellsA P1.out.1.res 1 rfl
    have z2 := cellsA P1.out.1.res 2 rfl
    have z3 := cellsA P1.out.1.res 3 rfl
    have s0 := freeA P1.out.1.res 0
    have s1 := freeA P1.out.1.res 1
    have s2 := freeA P1.out.1.res 2
    have s3 := freeA P1.out.1.res 3
    go_wp2_with fail
    refine bodyPost_ret (results_cell_row rfl _ _ (w.heap.size + 1) _ _ (0, 0) _ rfl (P1.out.1.resAt _ _ _ _) Try.underlying27 rfl (by kernel_rfl)) rfl ?_
    rw [HE.out]
    exact P1.out.1.ret P1.out.2
  obtain ⟨a1, a2, a3, a4, a5, a6⟩ := devOk_parts HV.out
  rw [HL.out.2.1] at a2 a3
  rw [HL.out.1] at a4
  have HE2 : Hd (R = { secs := putL d.secs (keptL (keepOf keep) 0 d.cache), cache := [], fuse := -1, down := false }) := ⟨by rw [← HR.out]; unfold fallD; rw [if_neg (by rw [HV.out]; simp), keepL_kept]⟩
  have HO : Hd ((∀ s ∈ d.secs, s.length ≤ 120) ∧ (∀ q ∈ d.cache, (0 ≤ q.n ∧ q.n ≤ (m0 : Int) - 1) ∧ q.b.length ≤ 120) ∧ (1 ≤ m0 ∧ m0 ≤ 64) ∧ m1 ≤ 40) := ⟨a1, a2, a3, a4⟩
  clear HV HR a1 a2 a3 a4 a5 a6
  obtain ⟨F0, F1, hP⟩ := P1.out.1.splitAt P1.out.2
  have hn0 := (owS_len hP.r0).1
  have hn1 : n0 = m0 := hn0.symm.trans HL.out.2.1
  have PP : Hd (CpParts w #[.slice x0 m0 d0, .slice x1 m1 d1, .int .i64 f, .bool b] q d y0 n0 e0 y1 n1 e1 F0 F1 w2 ∧ n0 = m0) := ⟨hP, hn1⟩
  obtain ⟨ao, cc, hsl, hcase⟩ := owS_slice hP.r0
  obtain ⟨g, hg⟩ : ∃ g, y0 = some ⟨g, 0, none⟩ := by
    simp only [Value.slice.injEq] at hsl
    rcases hcase with ⟨h1, h2⟩ | ⟨g, h1, _⟩
    · have h3 := HL.out.2.1; have h4 := HO.out.2.2.1; rw [show d.secs = [] from h2] at h3; simp at h3; omega
    · exact ⟨g, hsl.1.trans h1⟩
  subst hg
  have HBQ : Hd (w2.heap[q]? = some (.cells #[.slice (some ⟨g, 0, none⟩) n0 e0, .slice y1 n1 e1, .int .i64 f, .bool b] 27 (0, 0))) := ⟨P1.out.2⟩
  clear hP P1 hn0 hn1 hsl hcase
  have KK : Hd (∀ w', Below w2.heap.size w2 w' → (w'.cell? ⟨q, 0, none⟩ = some (.slice (some ⟨g, 0, none⟩) n0 e0) ∧ w'.cell? ⟨w.heap.size, 1, none⟩ = some (.slice x1 m1 d1))) := ⟨fun w' hb => ⟨cell_below (cellsA HBQ.out 0 rfl) hb, cell_below (cellsA PP.out.1.arg 1 rfl) hb⟩⟩
  have D0 : Hd (Below w2.heap.size w2 w2.drew) := ⟨(Below.refl _ w2).drew⟩
  have c0 := cellsA HBQ.out 0 rfl
  have c1 := cellsA PP.out.1.arg 1 rfl
  go_wp2_with fail
  go_region_held (fun w' => w'.cell? ⟨q, 0, none⟩ = some (.slice (some ⟨g, 0, none⟩) n0 e0) ∧ w'.cell? ⟨w.heap.size, 1, none⟩ = some (.slice x1 m1 d1)) (first | (with_reducible exact D2.out) | (with_reducible exact KK.out _ D1.out) | (with_reducible exact KK.out _ D0.out))
    (first | (have G1 := D1; clear G1; go_at_call 33; refine (implSettle_any w g n0 e0 d.secs F0 y9 n9 e9 (keptL (keepOf keep) 0 d.cache) _ ?hs1 ?hs2 ?hs3 ?hs4 ?hs5 ?hs6 ?hs7 ?hs8).mono ?_; exact Below.trans PP.out.1.bel (D1.out.mono PP.out.1.bel.size); exact fun x hx => (by have := (PP.out.1.low0 x hx).1; omega); exact owByteSS_ok.below PP.out.1.r0 D1.out; exact R9.out.1; exact (by have := R9.out.2; omega); exact fun q hq => (by rw [PP.out.2]; exact HO.out.2.1 q (keptL_mem _ _ _ _ hq)); exact (by rw [PP.out.2]; exact HO.out.2.2.1.2); exact HO.out.1; rintro e w5 ⟨rfl, hc, F', hO5, hF5⟩; have P5 : Hd (CpParts w #[.slice x0 m0 d0, .slice x1 m1 d1, .int .i64 f, .bool b] q { d with secs := putL d.secs (keptL (keepOf keep) 0 d.cache) } (some ⟨g, 0, none⟩) n0 e0 y1 n1 e1 F' F1 w5) := ⟨(PP.out.1.below D1.out).secs hc hO5 hF5⟩; have HB5 : Hd (w5.heap[q]? = some (.cells #[.slice (some ⟨g, 0, none⟩) n0 e0, .slice y1 n1 e1, .int .i64 f, .bool b] 27 (0, 0))) := (⟨by have h7 := P5.out.box; rw [HL.out.2.2.1, HL.out.2.2.2] at h7; exact h7⟩); have D2 : Hd (w5.cell? ⟨q, 0, none⟩ = some (.slice (some ⟨g, 0, none⟩) n0 e0) ∧ w5.cell? ⟨w.heap.size, 1, none⟩ = some (.slice x1 m1 d1)) := ⟨cellsA HB5.out 0 rfl, cellsA P5.out.arg 1 rfl⟩; clear hc hO5 hF5) | (go_at_call 34; refine (implKeptWrs_any w x1 m1 d1 d.cache keep _ ?hk1 ?hk2).mono ?_; exact rdWrOn_of HC9.out (Below.trans PP.out.1.bel (D0.out.mono PP.out.1.bel.size)); exact HO.out.2.2.2; rintro e w4 ⟨y9, n9, e9, rfl, hn9, hR9, hb⟩; have D1 : Hd (Below w2.heap.size w2 w4) := ⟨Below.next D0.out hb⟩; have R9 : Hd (RdWrOn w w4 [.slice y9 n9 e9] (keptL (keepOf keep) 0 d.cache) ∧ n9 ≤ 40) := ⟨hR9, hn9⟩; clear hb hR9 hn9))
  clear D0 D1 D2 KK R9 PP HBQ HO HC9 c0 c1
  have P6 : Hd (CpAt w #[.slice x0 m0 d0, .slice x1 m1 d1, .int .i64 f, .bool b] q { secs := putL d.secs (keptL (keepOf keep) 0 d.cache), cache := [], fuse := -1, down := false } (((w5.setCell ⟨q, 1, none⟩ (.slice none 0 0)).setCell ⟨q, 2, none⟩ (.int .i64 (-1))).setCell ⟨q, 3, none⟩ (.bool false)) ∧ (((w5.setCell ⟨q, 1, none⟩ (.slice none 0 0)).setCell ⟨q, 2, none⟩ (.int .i64 (-1))).setCell ⟨q, 3, none⟩ (.bool false)).heap[q]? = some (.cells #[.slice (some ⟨g, 0, none⟩) n0 e0, .slice none 0 0, .int .i64 (-1), .bool false] 27 (0, 0))) := ⟨P5.out.empty.flags (-1) false, (P5.out.empty.flags2 (-1) false)⟩
  have k1 := cellsA HB5.out 1 rfl
  have k2 := freeA HB5.out 1
  have k3 := cellsA HB5.out 2 rfl
  have k4 := freeA HB5.out 2
  have k5 := cellsA HB5.out 3 rfl
  have k6 := freeA HB5.out 3
  clear P5 HB5
  have c0 := cellsA P6.out.2 0 rfl
  have c1 := cellsA P6.out.2 1 rfl
  have c2 := cellsA P6.out.2 2 rfl
  have c3 := cellsA P6.out.2 3 rfl
  have z0 := cellsA P6.out.1.res 0 rfl
  have z1 := cellsA P6.out.1.res 1 rfl
  have z2 := cellsA P6.out.1.res 2 rfl
  have z3 := cellsA P6.out.1.res 3 rfl
  have s0 := freeA P6.out.1.res 0
  have s1 := freeA P6.out.1.res 1
  have s2 := freeA P6.out.1.res 2
  have s3 := freeA P6.out.1.res 3
  go_wp2_with fail
  refine bodyPost_ret (results_cell_row rfl _ _ (w.heap.size + 1) _ _ (0, 0) _ rfl (P6.out.1.resAt _ _ _ _) Try.underlying27 rfl (by kernel_rfl)) rfl ?_
  rw [HE2.out]
  exact P6.out.1.ret P6.out.2

end Go.Proofs.Ytidbhdlhcmjhkaa
