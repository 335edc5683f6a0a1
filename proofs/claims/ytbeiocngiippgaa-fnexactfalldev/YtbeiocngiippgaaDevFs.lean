/- The specification: FallDev. -/
import Derived.Test.YtbeiocngiippgaaDevLs
import Derived.Test.YtbeiocngiippgaaDevKw
namespace Go.Proofs.Ytbeiocngiippgaa
set_option maxRecDepth 4000
open Go.RowKit

theorem keptL_past (K : Int) : ∀ (c : List WrD) (i : Nat), 30 ≤ i → keptL K i c = []
  | [], _, _ => rfl
  | x :: r, i, h => by
    unfold keptL
    rw [if_neg (by omega), keptL_past K r (i + 1) (by omega)]
theorem keptL_stop (K : Int) : ∀ (c : List WrD) (i k : Nat), 30 ≤ i + k ∨ c.length ≤ k → keptL K i (c.take k) = keptL K i c
  | [], _, k, _ => by simp
  | x :: r, i, 0, h => by
    rcases h with h | h
    · rw [keptL_past K _ i (by omega), keptL_past K _ i (by omega)]
    · simp at h
  | x :: r, i, k + 1, h => by
    rw [List.take_succ_cons]
    unfold keptL
    rw [keptL_stop K r (i + 1) k (by simp at h; omega)]
/-- What FallDev has behind k writes. -/
structure KfAt (W4 : World) (g m0 d0 : Nat) (secs : List (List UInt8)) (c : List WrD) (K : Int) (F0 : Fp) (Fs : Nat → Fp) (k : Nat) (Fk : Fp) (wr : World) : Prop where
  own : OwByteSS wr [.slice (some ⟨g, 0, none⟩) m0 d0] Fk (putL secs (keptL K 0 (c.take k)))
  chg : Chg W4 wr (fun x => x = g)
  sub : ∀ x, Fk x → F0 x ∨ ∃ i, i < k ∧ i < c.length ∧ Fs i x
theorem KfAt.drew {W4 : World} {g m0 d0 : Nat} {secs : List (List UInt8)} {c : List WrD} {K : Int} {F0 : Fp} {Fs : Nat → Fp} {k : Nat} {Fk : Fp} {wr : World} (h : KfAt W4 g m0 d0 secs c K F0 Fs k Fk wr) : KfAt W4 g m0 d0 secs c K F0 Fs k Fk wr.drew := ⟨owByteSS_ok.keep h.own (fun _ _ => rfl), h.chg.drew, h.sub⟩

set_option maxHeartbeats 8000000 in
theorem specFallDev_ow (cs : List Value) (d : DevD) (keep : Int) (w : World) (h : RdDev w cs d) (hw : wtDev d ≤ 1073741824) :
    Calls Try.prog 25 #[.agg cs.toArray, .int .i64 keep] w (AnsAgg OwDev (fallD d keep) w) := by
  have HD : Hd (RdDev w cs d ∧ wtDev d ≤ 1073741824) := ⟨h, hw⟩
  obtain ⟨x0, m0, d0, x1, m1, d1, rfl, r0, r1⟩ := h
  obtain ⟨f, hf⟩ : ∃ f, d.fuse = f := ⟨_, rfl⟩
  obtain ⟨b, hbb⟩ : ∃ b, d.down = b := ⟨_, rfl⟩
  have HL : Hd (d.fuse = f ∧ d.down = b) := ⟨hf, hbb⟩
  rw [hf, hbb] at HD ⊢
  obtain ⟨R, hR⟩ : ∃ R, fallD d keep = R := ⟨_, rfl⟩
  have HR : Hd (fallD d keep = R) := ⟨hR⟩
  rw [hR]
  clear r0 r1 hf hbb hR hw
  go_enter Try.func25, Try.ntmps25
  go_wp2_with fail
  refine (specL10Copy_rd _ d _ (rdDev_ok.below HD.out.1 (below_lit2 w _ _)) HD.out.2).mono ?_
  rintro e w1 ⟨⟨cs1, rfl, hN⟩, hB⟩
  have HC : Hd (CpAt w #[.slice x0 m0 d0, .slice x1 m1 d1, .int .i64 f, .bool b] w1.heap.size d (w1.alloc (.cells cs1.toArray 27))) := ⟨cpAt_of (Below.next (below_lit2 w _ _) hB) ((hB.block _ (by simp; omega)).trans (laid2 w _ _).1) ((hB.block _ (by simp)).trans (laid2 w _ _).2) (by simp) hN⟩
  obtain ⟨F, hO, _⟩ := hN
  obtain ⟨y0, n0, e0, y1, n1, e1, _, _, hcs, _⟩ := hO
  rw [HL.out.1, HL.out.2] at hcs
  subst hcs
  have HBX : Hd ((w1.alloc (.cells #[.slice y0 n0 e0, .slice y1 n1 e1, .int .i64 f, .bool b] 27)).heap[w1.heap.size]? = some (.cells #[.slice y0 n0 e0, .slice y1 n1 e1, .int .i64 f, .bool b] 27 (0, 0))) := ⟨heap_alloc_new w1 _⟩
  clear hB
  obtain ⟨q, hq⟩ : ∃ q, w1.heap.size = q := ⟨_, rfl⟩
  rw [hq] at HC HBX
  obtain ⟨WX, hWX⟩ : ∃ WX, w1.alloc (.cells #[.slice y0 n0 e0, .slice y1 n1 e1, .int .i64 f, .bool b] 27) = WX := ⟨_, rfl⟩
  have P0 : Hd (CpAt w #[.slice x0 m0 d0, .slice x1 m1 d1, .int .i64 f, .bool b] q d WX ∧ WX.heap[q]? = some (.cells #[.slice y0 n0 e0, .slice y1 n1 e1, .int .i64 f, .bool b] 27 (0, 0))) := ⟨by rw [← hWX]; exact ⟨HC.out, HBX.out⟩⟩
  have HWX : Hd (w1.alloc (.cells #[.slice y0 n0 e0, .slice y1 n1 e1, .int .i64 f, .bool b] 27) = WX ∧ w1.heap.size = q) := ⟨hWX, hq⟩
  have c0 := cellsA HC.out.arg 0 rfl
  have c1 := cellsA HC.out.arg 1 rfl
  have c2 := cellsA HC.out.arg 2 rfl
  have c3 := cellsA HC.out.arg 3 rfl
  clear HC HBX hWX hq
  go_wp2_with fail
  rewrite [HWX.out.1, HWX.out.2]
  clear c0 c1 c2 c3 HWX
  refine (specDevOk_rd _ d _ (rdDev_ok.below HD.out.1 P0.out.1.bel)).mono ?_
  rintro e w2 ⟨rfl, hB⟩
  have P1 : Hd (CpAt w #[.slice x0 m0 d0, .slice x1 m1 d1, .int .i64 f, .bool b] q d w2 ∧ w2.heap[q]? = some (.cells #[.slice y0 n0 e0, .slice y1 n1 e1, .int .i64 f, .bool b] 27 (0, 0))) := ⟨P0.out.1.below hB, (hB.block _ (lt_of_block P0.out.2)).trans P0.out.2⟩
  obtain ⟨V, hV⟩ : ∃ V, devOk d = V := ⟨_, rfl⟩
  have HV : Hd (devOk d = V) := ⟨hV⟩
  rewrite [hV]
  clear hB hV P0
  cases V
  · have HE : Hd (R = d) := ⟨by rw [← HR.out]; unfold fallD; rw [HV.out]; rfl⟩
    clear HV HR
    have c0 := cellsA P1.out.2 0 rfl
    have c1 := cellsA P1.out.2 1 rfl
    have c2 := cellsA P1.out.2 2 rfl
    have c3 := cellsA P1.out.2 3 rfl
    have z0 := cellsA P1.out.1.res 0 rfl
    have z1 := cellsA P1.out.1.res 1 rfl
    have z2 := cellsA P1.out.1.res 2 rfl
    have z3 := cellsA P1.out.1.res 3 rfl
    have s0 := freeA P1.out.1.res 0
    have s1 := freeA P1.out.1.res 1
    have s2 := freeA P1.out.1.res 2
    have s3 := freeA P1.out.1.res 3
    go_wp2_with fail
    refine bodyPost_ret (results_cell_row rfl _ _ (w.heap.size + 1) _ _ (0, 0) _ rfl (P1.out.1.resAt _ _ _ _) Try.underlying27 rfl (by kernel_rfl)) rfl ?_
    rw [HE.out]
    exact P1.out.1.ret P1.out.2
  obtain ⟨F, hB9, hF9⟩ := P1.out.1.box
  have HX : Hd (BoxDev w2 q F d ∧ (∀ x, F x → w.heap.size + 2 ≤ x)) := ⟨hB9, hF9⟩
  have HQ : Hd (w2.heap[q]? = some (.cells #[.slice y0 n0 e0, .slice y1 n1 e1, .int .i64 f, .bool b] 27 (0, 0))) := ⟨P1.out.2⟩
  obtain ⟨u0, u1, u2, u3, u4, u5, F0, F1, hp, r0, r1, k1, k2, hn⟩ := hB9.parts
  rw [P1.out.2] at hp
  simp only [Option.some.injEq, Obj.cells.injEq, Array.mk.injEq, List.cons.injEq, Value.slice.injEq, and_true] at hp
  obtain ⟨⟨e2, e3, e4⟩, ⟨e5, e6, e7⟩, e8, e9⟩ := hp
  rw [← e2, ← e3, ← e4] at r0
  rw [← e5, ← e6, ← e7] at r1
  clear e2 e3 e4 e5 e6 e7 e8 e9 hB9 hF9
  have hm0 : d.secs.length = n0 := (owS_len r0).1
  have hm1 : d.cache.length = n1 := (owS_len r1).1
  obtain ⟨a1, a2, a3, a4, a5, a6⟩ := devOk_parts HV.out
  rw [hm0] at a3 a2
  rw [hm1] at a4
  have HO : Hd ((∀ x ∈ d.cache, 0 ≤ x.n ∧ x.n ≤ (n0 : Int) - 1) ∧ (1 ≤ n0 ∧ n0 ≤ 64) ∧ n1 ≤ 40 ∧ d.secs.length = n0 ∧ d.cache.length = n1) := ⟨fun x hx => (a2 x hx).1, a3, a4, hm0, hm1⟩
  have HE2 : Hd (R = { secs := putL d.secs (keptL (keepOf keep) 0 d.cache), cache := [], fuse := -1, down := false }) := ⟨by rw [← HR.out]; unfold fallD; rw [if_neg (by rw [HV.out]; simp), keepL_kept]⟩
  clear HV HR a1 a2 a3 a4 a5 a6 hm0 hm1
  obtain ⟨g, hg⟩ : ∃ g, y0 = some ⟨g, 0, none⟩ := by
    obtain ⟨ao, cc, hsl, hcase⟩ := owS_slice r0
    simp only [Value.slice.injEq] at hsl
    rcases hcase with ⟨h1, h2⟩ | ⟨g, h1, _⟩
    · have h3 := HO.out.2.2.2.1; have h4 := HO.out.2.1; rw [show d.secs = [] from h2] at h3; simp at h3; omega
    · exact ⟨g, hsl.1.trans h1⟩
  subst hg
  obtain ⟨_, _, _, _, _, _, hF0g, _⟩ := owS_at r0 (by have := HO.out.2.1; omega : 0 < n0)
  obtain ⟨Fs, g1, hx1, hall, hsub, hap, hF1g⟩ : ∃ (Fs : Nat → Fp) (g1 : Nat), (d.cache = [] ∨ y1 = some ⟨g1, 0, none⟩) ∧ (∀ k a, d.cache[k]? = some a → ∃ c, c.length = 2 ∧ (∀ i v, c[i]? = some v → w2.cell? ⟨g1, k * 2 + i, none⟩ = some v) ∧ OwWr w2 c (Fs k) a) ∧ (∀ k x, k < d.cache.length → Fs k x → F1 x ∧ x ≠ g1) ∧ (∀ i j x, i < d.cache.length → j < d.cache.length → i ≠ j → Fs i x → ¬ Fs j x) ∧ (d.cache ≠ [] → F1 g1) := by
    obtain ⟨ao, cc, hsl, hcase⟩ := owS_slice r1
    simp only [Value.slice.injEq] at hsl
    rcases hcase with ⟨h1, h2⟩ | ⟨g1, h1, _⟩
    · have h3 : d.cache = [] := h2
      rw [h3]
      exact ⟨fun _ _ => False, 0, .inl rfl, fun k a h => by simp at h, fun k x h => by simp at h, fun i j x h => by simp at h, fun h => absurd rfl h⟩
    · have h4 := hsl.1.trans h1
      rw [h4] at r1
      obtain ⟨Fs, s1, s2, s3, s4⟩ := owS_all r1
      exact ⟨Fs, g1, .inr h4, s1, s2, s3, fun _ => s4⟩
  have PP : Hd ((∀ x, F0 x → ¬ F1 x) ∧ (∀ x, F x ↔ F0 x ∨ F1 x) ∧ ¬ F q ∧ F0 g ∧ q < w2.heap.size) := ⟨k1, k2, hn, hF0g, lt_of_block HQ.out⟩
  have HC : Hd ((d.cache = [] ∨ y1 = some ⟨g1, 0, none⟩) ∧ (∀ k a, d.cache[k]? = some a → ∃ c, c.length = 2 ∧ (∀ i v, c[i]? = some v → w2.cell? ⟨g1, k * 2 + i, none⟩ = some v) ∧ OwWr w2 c (Fs k) a) ∧ (∀ k x, k < d.cache.length → Fs k x → F1 x ∧ x ≠ g1) ∧ (∀ i j x, i < d.cache.length → j < d.cache.length → i ≠ j → Fs i x → ¬ Fs j x) ∧ (d.cache ≠ [] → F1 g1)) := ⟨hx1, hall, hsub, hap, hF1g⟩
  have H0 : Hd (∃ Fk, KfAt w2 g n0 e0 d.secs d.cache (keepOf keep) F0 Fs 0 Fk w2) := ⟨F0, r0, Chg.refl w2 _, fun x hx => .inl hx⟩
  clear r0 r1 k1 k2 hn hF0g hx1 hall hsub hap hF1g
  go_wp2_with fail
  refine (l1In_any keep 0 1073741823 _).mono ?_
  rintro e w3 ⟨rfl, hw3⟩
  replace hw3 := hw3.symm
  subst hw3
  obtain ⟨ib, hib⟩ : ∃ ib, inB keep 0 1073741823 = ib := ⟨_, rfl⟩
  rewrite [hib]
  cases ib with
  | true =>
    have HKB : Hd (0 ≤ keepOf keep ∧ keepOf keep ≤ 1073741823 ∧ True) := ⟨by have h7 : 0 ≤ keep ∧ keep ≤ 1073741823 := of_decide_eq_true hib; have e : keepOf keep = keep := if_pos h7; rw [e]; exact ⟨h7.1, h7.2, trivial⟩⟩
    have HKE : Hd (keepOf keep = keep) := ⟨if_pos (of_decide_eq_true hib)⟩
    clear hib
    go_wp2_with fail
    go_loopw [6] (fun i wr => ∃ k : Nat, k ≤ n1 ∧ k ≤ 30 ∧ i = .int .i64 k ∧ Hd (∃ Fk, KfAt w2 g n0 e0 d.secs d.cache (keepOf keep) F0 Fs k Fk wr)) (fun i _ => n1 - (intOf i).toNat)
    case atStart => exact ⟨0, Nat.zero_le _, by omega, rfl, H0⟩
    case round =>
      obtain ⟨k, hk, hk30, rfl, HK⟩ := hrel
      clear H0
      obtain ⟨Fk, hS⟩ := HK.out
      have ST : Hd (KfAt w2 g n0 e0 d.secs d.cache (keepOf keep) F0 Fs k Fk wr) := ⟨hS⟩
      clear HK hS
      have hqg : q ≠ g := fun e => PP.out.2.2.1 ((PP.out.2.1 q).2 (.inl (by rw [e]; exact PP.out.2.2.2.1)))
      have HB : Hd (wr.heap[q]? = some (.cells #[.slice (some ⟨g, 0, none⟩) n0 e0, .slice y1 n1 e1, .int .i64 f, .bool b] 27 (0, 0)) ∧ q ≠ g) := ⟨(ST.out.chg.block q PP.out.2.2.2.2 hqg).trans HQ.out, hqg⟩
      clear hqg
      have c1 := cellsA HB.out.1 1 rfl
      by_cases hlt : k < n1 ∧ k < 30
      · obtain ⟨hlt, hl30⟩ := hlt
        have hlt' : (k : Int) < (n1 : Int) := by omega
        have hl30' : (k : Int) < 30 := by omega
        have h0 : (0 : Int) ≤ (k : Int) := by omega
        have hm40 : n1 ≤ 40 := HO.out.2.2.1
        have hkl : k < d.cache.length := by rw [HO.out.2.2.2.2]; exact hlt
        obtain ⟨a, ha⟩ := get_some hkl
        have hstep := keptL_step HKB.out.1 HKB.out.2.1 ha
        obtain ⟨B, hBit⟩ : ∃ B, keepBit keep k = B := ⟨_, rfl⟩
        rw [HKE.out, hBit] at hstep
        rw [← HKE.out] at hstep
        obtain ⟨u, hu⟩ : ∃ u, keep / 2 ^ k = u := ⟨_, rfl⟩
        have hand : bits .and .i64 (keep / 2 ^ k) 1 = if B = true then 1 else 0 := by
          rw [and_bit, ← hBit]
          unfold keepBit
          by_cases e : keep / 2 ^ k % 2 = 1
          · rw [e]; rfl
          · rw [decide_eq_false e]
            have := Int.emod_nonneg (keep / 2 ^ k) (b := 2) (by omega)
            have := Int.emod_lt_of_pos (keep / 2 ^ k) (b := 2) (by omega)
            simp
            omega
        rw [hu] at hand
        clear hBit
        cases B with
        | false =>
          have hand' : bits .and .i64 u 1 = 0 := by simpa using hand
          clear hand
          have HN : Hd (∃ Fk, KfAt w2 g n0 e0 d.secs d.cache (keepOf keep) F0 Fs (k + 1) Fk wr) := ⟨Fk, by rw [show keptL (keepOf keep) 0 (d.cache.take (k + 1)) = keptL (keepOf keep) 0 (d.cache.take k) by rw [hstep]; simp]; exact ST.out.own, ST.out.chg, fun x hx => (ST.out.sub x hx).imp id (fun ⟨i, h1, h2, h3⟩ => ⟨i, by omega, h2, h3⟩)⟩
          clear hstep ST HB ha hkl
          go_wp2_with fail
          go_roundw
          case rel => exact ⟨k + 1, by omega, by omega, by go_num, HN⟩
          case measure => simp [intOf]; omega
        | true =>
          have hand' : bits .and .i64 u 1 = 1 := by simpa using hand
          have HS : Hd (keptL (keepOf keep) 0 (d.cache.take (k + 1)) = keptL (keepOf keep) 0 (d.cache.take k) ++ [a]) := ⟨by rw [hstep]; simp⟩
          clear hand hstep
          have hne : d.cache ≠ [] := fun e => by rw [e] at hkl; simp at hkl
          have hx1 : y1 = some ⟨g1, 0, none⟩ := HC.out.1.resolve_left hne
          subst hx1
          obtain ⟨ce, hcn, hcell, y, l, cc, Fb, hce, hEb, hiff⟩ := HC.out.2.1 k a ha
          subst hce
          have hE' : OwB w2 [.slice y l cc] (Fs k) a.b := by
            have e : Fb = Fs k := by funext x; exact propext (hiff x).symm
            rw [← e]; exact hEb
          have hgg : g1 ≠ g := fun e => PP.out.1 g PP.out.2.2.2.1 (by rw [← e]; exact HC.out.2.2.2.2 hne)
          have u0 := hcell 0 _ rfl
          have u1 := hcell 1 _ rfl
          simp only [Nat.add_zero] at u0
          have hb1 : wr.heap[g1]? = w2.heap[g1]? := ST.out.chg.block g1 (World.block_lt_of_cell? w2 _ u0) hgg
          rw [← World.cell?_of_block (w := w2) (a := ⟨g1, k * 2, none⟩) hb1] at u0
          rw [← World.cell?_of_block (w := w2) (a := ⟨g1, k * 2 + 1, none⟩) hb1] at u1
          have hin := HO.out.1 a (List.mem_of_getElem? ha)
          obtain ⟨N, hN⟩ : ∃ N : Nat, a.n = (N : Int) := ⟨a.n.toNat, by omega⟩
          have hNm : N < n0 := by omega
          obtain ⟨ce2, _, _, hcl2, hcell2, hfr2, _, _⟩ := owS_at ST.out.own hNm
          obtain ⟨ov, hov⟩ := get_some (l := ce2) (j := 0) (by omega)
          have u2 := hcell2 0 ov hov
          simp only [Nat.mul_one, Nat.add_zero] at u2
          have u3 := hfr2 N
          rw [hN] at u0
          have HN : Hd (∃ Fk, KfAt w2 g n0 e0 d.secs d.cache (keepOf keep) F0 Fs (k + 1) Fk (wr.drew.setCell ⟨g, N, none⟩ (.slice y l cc))) := ⟨fun x => Fk x ∨ Fs k x, by
            have hdis : ∀ x, Fs k x → x ≠ g := fun x hx e => PP.out.1 g PP.out.2.2.2.1 (by rw [← e]; exact (HC.out.2.2.1 k x hkl hx).1)
            have r2 := owS_put2 owB_ok ST.out.drew.own hNm rfl (owB_ok.chg hE' ST.out.drew.chg hdis) (fun x hx hy => by
              rcases ST.out.sub x hy with h | ⟨i, h1, h2, h3⟩
              · exact PP.out.1 x h (HC.out.2.2.1 k x hkl hx).1
              · exact HC.out.2.2.2.1 i k x h2 hkl (by omega) h3 hx)
            rw [Nat.mul_one] at r2
            refine ⟨?_, ST.out.chg.drew.setCell rfl _, fun x hx => ?_⟩
            · rw [HS.out, putL_snoc, hN, Int.toNat_natCast]; exact r2
            · rcases hx with hx | hx
              · rcases ST.out.sub x hx with h | ⟨i, h1, h2, h3⟩
                · exact .inl h
                · exact .inr ⟨i, by omega, h2, h3⟩
              · exact .inr ⟨k, by omega, hkl, hx⟩⟩
          have hNm' : (N : Int) < (n0 : Int) := by omega
          have hN0 : (0 : Int) ≤ (N : Int) := by omega
          have KS : Hd ((wr.drew.cell? ⟨q, 0, none⟩ = some (.slice (some ⟨g, 0, none⟩) n0 e0) ∧ wr.drew.cell? ⟨q, 1, none⟩ = some (.slice (some ⟨g1, 0, none⟩) n1 e1) ∧ wr.drew.cell? ⟨g1, k * 2, none⟩ = some (.int .i64 (N : Int)) ∧ wr.drew.cell? ⟨g1, k * 2 + 1, none⟩ = some (.slice y l cc)) ∧ q ≠ g ∧ g1 ≠ g) := ⟨⟨cellsA HB.out.1 0 rfl, cellsA HB.out.1 1 rfl, u0, u1⟩, HB.out.2, hgg⟩
          have u4 : wr.drew.cell? ⟨g, N, none⟩ = some ov := u2
          have u5 : wr.drew.frozen? ⟨g, N, none⟩ = false := u3
          clear hcn hcell hEb hiff hE' hb1 hin hN hcl2 hcell2 hfr2 hov ha hne hkl u0 u1 u2 u3
          have q0 := KS.out.1.1
          have q1 := KS.out.1.2.1
          have q2 := KS.out.1.2.2.1
          have q3 := KS.out.1.2.2.2
          go_wp2_with fail
          go_region_held (fun w' => w'.cell? ⟨q, 0, none⟩ = some (.slice (some ⟨g, 0, none⟩) n0 e0) ∧ w'.cell? ⟨q, 1, none⟩ = some (.slice (some ⟨g1, 0, none⟩) n1 e1) ∧ w'.cell? ⟨g1, k * 2, none⟩ = some (.int .i64 (N : Int)) ∧ w'.cell? ⟨g1, k * 2 + 1, none⟩ = some (.slice y l cc)) (first | exact KS.out.1 | exact ⟨cell_set KS.out.1.1 KS.out.2.1, cell_set KS.out.1.2.1 KS.out.2.1, cell_set KS.out.1.2.2.1 KS.out.2.2, cell_set KS.out.1.2.2.2 KS.out.2.2⟩) (fail)
          clear q0 q1 q2 q3 u4 u5 KS c1
          go_wp2_with fail
          go_roundw
          case rel => exact ⟨k + 1, by omega, by omega, by go_num, HN⟩
          case measure => simp [intOf]; omega
      · have HZ : Hd (BxOut q F R w2 (((wr.alloc (.cells #[] 35)).setCell ⟨q, 1, none⟩ (.slice (some ⟨wr.heap.size, 0, none⟩) 0 0)).setCell ⟨q, 3, none⟩ (.bool false) |>.setCell ⟨q, 2, none⟩ (.int .i64 (-1)))) := ⟨by
          have hown := ST.out.own
          rw [keptL_stop (keepOf keep) d.cache 0 k (by have := HO.out.2.2.2.2; omega)] at hown
          have hqw := lt_of_block HB.out.1
          have hsub : ∀ x, Fk x → F x := fun x hx => by
            rcases ST.out.sub x hx with h | ⟨i, h1, h2, h3⟩
            · exact (PP.out.2.1 x).2 (.inl h)
            · exact (PP.out.2.1 x).2 (.inr (HC.out.2.2.1 i x h2 h3).1)
          have hneq : ∀ x, Fk x → x ≠ q := fun x hx e => PP.out.2.2.1 (by rw [← e]; exact hsub x hx)
          have ho : ((((wr.alloc (.cells #[] 35)).setCell ⟨q, 1, none⟩ (.slice (some ⟨wr.heap.size, 0, none⟩) 0 0)).setCell ⟨q, 3, none⟩ (.bool false)).setCell ⟨q, 2, none⟩ (.int .i64 (-1))).ownsRow 0 35 2 (.slice (some ⟨wr.heap.size, 0, none⟩) 0 0) 0 (List.replicate 0 ([.int .i64 0, .slice none 0 0] : List Value)).flatten :=
            ⟨by simp, .inr ⟨wr.heap.size, 0, #[], rfl, Nat.zero_le _, block_set (block_set (block_set (heap_alloc_new wr _) (by omega)) (by omega)) (by omega), Nat.le_refl _, by unfold maxLen; omega, by simp, by simp⟩⟩
          have hP := owP_made (m := 0) (z := (⟨0, []⟩ : WrD)) ho rfl (lt_of_block (block_set (block_set (block_set (heap_alloc_new wr (.cells #[] 35)) (by omega)) (by omega)) (by omega))) (owWr_zero _)
          have hcs := ST.out.chg.size
          refine ⟨⟨fun x => Fk x ∨ x = wr.heap.size, ?_, fun x hx => ?_⟩, ?_⟩
          · rw [HE2.out]
            exact boxDev_of (setA (setA (setA ((below_lit wr _).block q hqw |>.trans HB.out.1) 1 _ rfl) 3 _ rfl) 2 _ rfl) (owByteSS_ok.keep (owByteSS_ok.below hown (below_lit wr _)) (fun x hx => block_set (block_set (block_set rfl (hneq x hx)) (hneq x hx)) (hneq x hx))) ⟨_, _, _, rfl, hP⟩ (fun x hx hy => by have := owByteSS_ok.lt hown x hx; omega) (fun x => Iff.rfl) (fun hx => hx.elim (fun hx => hneq q hx rfl) (fun hx => by omega))
          · rcases hx with hx | hx
            · exact .inl (hsub x hx)
            · exact .inr (by omega)
          · exact ((((ST.out.chg.mono (fun x hx => .inr ((PP.out.2.1 x).2 (.inl (by rw [hx]; exact PP.out.2.2.2.1))))).alloc _).setCell (.inl rfl) _).setCell (.inl rfl) _).setCell (.inl rfl) _⟩
        have P2 : Hd (CpAt w #[.slice x0 m0 d0, .slice x1 m1 d1, .int .i64 f, .bool b] q R (((wr.alloc (.cells #[] 35)).setCell ⟨q, 1, none⟩ (.slice (some ⟨wr.heap.size, 0, none⟩) 0 0)).setCell ⟨q, 3, none⟩ (.bool false) |>.setCell ⟨q, 2, none⟩ (.int .i64 (-1)))) := ⟨P1.out.1.bx HX.out.2 HZ.out⟩
        have HBx : Hd ((((wr.alloc (.cells #[] 35)).setCell ⟨q, 1, none⟩ (.slice (some ⟨wr.heap.size, 0, none⟩) 0 0)).setCell ⟨q, 3, none⟩ (.bool false) |>.setCell ⟨q, 2, none⟩ (.int .i64 (-1))).heap[q]? = some (.cells #[.slice (some ⟨g, 0, none⟩) n0 e0, .slice (some ⟨wr.heap.size, 0, none⟩) 0 0, .int .i64 (-1), .bool false] 27 (0, 0))) := ⟨setA (setA (setA ((below_lit wr _).block q (lt_of_block HB.out.1) |>.trans HB.out.1) 1 _ rfl) 3 _ rfl) 2 _ rfl⟩
        have t1 := cell_below c1 (below_lit wr (.cells #[] 35))
        have bq := (below_lit wr (.cells #[] 35)).block q (lt_of_block HB.out.1) |>.trans HB.out.1
        have t2 := freeA bq 1
        have t3 := cellsA bq 3 rfl
        have t4 := freeA bq 3
        have t5 := cellsA bq 2 rfl
        have t6 := freeA bq 2
        clear bq
        have q0 := cellsA HBx.out 0 rfl
        have q1 := cellsA HBx.out 1 rfl
        have q2 := cellsA HBx.out 2 rfl
        have q3 := cellsA HBx.out 3 rfl
        have z0 := cellsA P2.out.res 0 rfl
        have z1 := cellsA P2.out.res 1 rfl
        have z2 := cellsA P2.out.res 2 rfl
        have z3 := cellsA P2.out.res 3 rfl
        have s0 := freeA P2.out.res 0
        have s1 := freeA P2.out.res 1
        have s2 := freeA P2.out.res 2
        have s3 := freeA P2.out.res 3
        have hxit : (k : Int) < (n1 : Int) → ¬ (k : Int) < 30 := fun h1 h2 => hlt ⟨by omega, by omega⟩
        clear ST HZ PP HC HO HE2 HB HQ HX P1
        by_cases hk9 : (k : Int) < (n1 : Int)
        · have hk8 := hxit hk9
          clear hxit hlt
          go_wp2_with fail
          refine bodyPost_ret (results_cell_row rfl _ _ (w.heap.size + 1) _ _ (0, 0) _ rfl (P2.out.resAt _ _ _ _) Try.underlying27 rfl (by kernel_rfl)) rfl ?_
          exact P2.out.ret HBx.out
        · clear hxit hlt
          go_wp2_with fail
          refine bodyPost_ret (results_cell_row rfl _ _ (w.heap.size + 1) _ _ (0, 0) _ rfl (P2.out.resAt _ _ _ _) Try.underlying27 rfl (by kernel_rfl)) rfl ?_
          exact P2.out.ret HBx.out
  | false =>
    have HKB : Hd (0 ≤ keepOf keep ∧ keepOf keep ≤ 1073741823 ∧ keepOf keep = 0) := ⟨by have h7 : ¬ (0 ≤ keep ∧ keep ≤ 1073741823) := of_decide_eq_false hib; have e : keepOf keep = 0 := if_neg h7; rw [e]; omega⟩
    clear hib
    have a1 : bits .and .i64 0 1 = 0 := and_bit 0
    go_wp2_with fail
    go_loopw [6] (fun i wr => ∃ k : Nat, k ≤ n1 ∧ k ≤ 30 ∧ i = .int .i64 k ∧ Hd (∃ Fk, KfAt w2 g n0 e0 d.secs d.cache (keepOf keep) F0 Fs k Fk wr)) (fun i _ => n1 - (intOf i).toNat)
    case atStart => exact ⟨0, Nat.zero_le _, by omega, rfl, H0⟩
    case round =>
      obtain ⟨k, hk, hk30, rfl, HK⟩ := hrel
      clear H0
      obtain ⟨Fk, hS⟩ := HK.out
      have ST : Hd (KfAt w2 g n0 e0 d.secs d.cache (keepOf keep) F0 Fs k Fk wr) := ⟨hS⟩
      clear HK hS
      have hqg : q ≠ g := fun e => PP.out.2.2.1 ((PP.out.2.1 q).2 (.inl (by rw [e]; exact PP.out.2.2.2.1)))
      have HB : Hd (wr.heap[q]? = some (.cells #[.slice (some ⟨g, 0, none⟩) n0 e0, .slice y1 n1 e1, .int .i64 f, .bool b] 27 (0, 0)) ∧ q ≠ g) := ⟨(ST.out.chg.block q PP.out.2.2.2.2 hqg).trans HQ.out, hqg⟩
      clear hqg
      have c1 := cellsA HB.out.1 1 rfl
      by_cases hlt : k < n1 ∧ k < 30
      · obtain ⟨hlt, hl30⟩ := hlt
        have hlt' : (k : Int) < (n1 : Int) := by omega
        have hl30' : (k : Int) < 30 := by omega
        have h0 : (0 : Int) ≤ (k : Int) := by omega
        have hm40 : n1 ≤ 40 := HO.out.2.2.1
        have hkl : k < d.cache.length := by rw [HO.out.2.2.2.2]; exact hlt
        obtain ⟨a, ha⟩ := get_some hkl
        have hstep := keptL_step HKB.out.1 HKB.out.2.1 ha
        have a2 : bits .and .i64 (0 / 2 ^ k) 1 = 0 := by rw [Int.zero_ediv]; exact and_bit 0
        rw [show keepBit (keepOf keep) k = false by rw [HKB.out.2.2]; simp [keepBit]] at hstep
        have HN : Hd (∃ Fk, KfAt w2 g n0 e0 d.secs d.cache (keepOf keep) F0 Fs (k + 1) Fk wr) := ⟨Fk, by rw [show keptL (keepOf keep) 0 (d.cache.take (k + 1)) = keptL (keepOf keep) 0 (d.cache.take k) by rw [hstep]; simp]; exact ST.out.own, ST.out.chg, fun x hx => (ST.out.sub x hx).imp id (fun ⟨i, h1, h2, h3⟩ => ⟨i, by omega, h2, h3⟩)⟩
        clear hstep ST HB ha hkl
        go_wp2_with fail
        go_roundw
        case rel => exact ⟨k + 1, by omega, by omega, by go_num, HN⟩
        case measure => simp [intOf]; omega
      · have HZ : Hd (BxOut q F R w2 (((wr.alloc (.cells #[] 35)).setCell ⟨q, 1, none⟩ (.slice (some ⟨wr.heap.size, 0, none⟩) 0 0)).setCell ⟨q, 3, none⟩ (.bool false) |>.setCell ⟨q, 2, none⟩ (.int .i64 (-1)))) := ⟨by
          have hown := ST.out.own
          rw [keptL_stop (keepOf keep) d.cache 0 k (by have := HO.out.2.2.2.2; omega)] at hown
          have hqw := lt_of_block HB.out.1
          have hsub : ∀ x, Fk x → F x := fun x hx => by
            rcases ST.out.sub x hx with h | ⟨i, h1, h2, h3⟩
            · exact (PP.out.2.1 x).2 (.inl h)
            · exact (PP.out.2.1 x).2 (.inr (HC.out.2.2.1 i x h2 h3).1)
          have hneq : ∀ x, Fk x → x ≠ q := fun x hx e => PP.out.2.2.1 (by rw [← e]; exact hsub x hx)
          have ho : ((((wr.alloc (.cells #[] 35)).setCell ⟨q, 1, none⟩ (.slice (some ⟨wr.heap.size, 0, none⟩) 0 0)).setCell ⟨q, 3, none⟩ (.bool false)).setCell ⟨q, 2, none⟩ (.int .i64 (-1))).ownsRow 0 35 2 (.slice (some ⟨wr.heap.size, 0, none⟩) 0 0) 0 (List.replicate 0 ([.int .i64 0, .slice none 0 0] : List Value)).flatten :=
            ⟨by simp, .inr ⟨wr.heap.size, 0, #[], rfl, Nat.zero_le _, block_set (block_set (block_set (heap_alloc_new wr _) (by omega)) (by omega)) (by omega), Nat.le_refl _, by unfold maxLen; omega, by simp, by simp⟩⟩
          have hP := owP_made (m := 0) (z := (⟨0, []⟩ : WrD)) ho rfl (lt_of_block (block_set (block_set (block_set (heap_alloc_new wr (.cells #[] 35)) (by omega)) (by omega)) (by omega))) (owWr_zero _)
          have hcs := ST.out.chg.size
          refine ⟨⟨fun x => Fk x ∨ x = wr.heap.size, ?_, fun x hx => ?_⟩, ?_⟩
          · rw [HE2.out]
            exact boxDev_of (setA (setA (setA ((below_lit wr _).block q hqw |>.trans HB.out.1) 1 _ rfl) 3 _ rfl) 2 _ rfl) (owByteSS_ok.keep (owByteSS_ok.below hown (below_lit wr _)) (fun x hx => block_set (block_set (block_set rfl (hneq x hx)) (hneq x hx)) (hneq x hx))) ⟨_, _, _, rfl, hP⟩ (fun x hx hy => by have := owByteSS_ok.lt hown x hx; omega) (fun x => Iff.rfl) (fun hx => hx.elim (fun hx => hneq q hx rfl) (fun hx => by omega))
          · rcases hx with hx | hx
            · exact .inl (hsub x hx)
            · exact .inr (by omega)
          · exact ((((ST.out.chg.mono (fun x hx => .inr ((PP.out.2.1 x).2 (.inl (by rw [hx]; exact PP.out.2.2.2.1))))).alloc _).setCell (.inl rfl) _).setCell (.inl rfl) _).setCell (.inl rfl) _⟩
        have P2 : Hd (CpAt w #[.slice x0 m0 d0, .slice x1 m1 d1, .int .i64 f, .bool b] q R (((wr.alloc (.cells #[] 35)).setCell ⟨q, 1, none⟩ (.slice (some ⟨wr.heap.size, 0, none⟩) 0 0)).setCell ⟨q, 3, none⟩ (.bool false) |>.setCell ⟨q, 2, none⟩ (.int .i64 (-1)))) := ⟨P1.out.1.bx HX.out.2 HZ.out⟩
        have HBx : Hd ((((wr.alloc (.cells #[] 35)).setCell ⟨q, 1, none⟩ (.slice (some ⟨wr.heap.size, 0, none⟩) 0 0)).setCell ⟨q, 3, none⟩ (.bool false) |>.setCell ⟨q, 2, none⟩ (.int .i64 (-1))).heap[q]? = some (.cells #[.slice (some ⟨g, 0, none⟩) n0 e0, .slice (some ⟨wr.heap.size, 0, none⟩) 0 0, .int .i64 (-1), .bool false] 27 (0, 0))) := ⟨setA (setA (setA ((below_lit wr _).block q (lt_of_block HB.out.1) |>.trans HB.out.1) 1 _ rfl) 3 _ rfl) 2 _ rfl⟩
        have t1 := cell_below c1 (below_lit wr (.cells #[] 35))
        have bq := (below_lit wr (.cells #[] 35)).block q (lt_of_block HB.out.1) |>.trans HB.out.1
        have t2 := freeA bq 1
        have t3 := cellsA bq 3 rfl
        have t4 := freeA bq 3
        have t5 := cellsA bq 2 rfl
        have t6 := freeA bq 2
        clear bq
        have q0 := cellsA HBx.out 0 rfl
        have q1 := cellsA HBx.out 1 rfl
        have q2 := cellsA HBx.out 2 rfl
        have q3 := cellsA HBx.out 3 rfl
        have z0 := cellsA P2.out.res 0 rfl
        have z1 := cellsA P2.out.res 1 rfl
        have z2 := cellsA P2.out.res 2 rfl
        have z3 := cellsA P2.out.res 3 rfl
        have s0 := freeA P2.out.res 0
        have s1 := freeA P2.out.res 1
        have s2 := freeA P2.out.res 2
        have s3 := freeA P2.out.res 3
        have hxit : (k : Int) < (n1 : Int) → ¬ (k : Int) < 30 := fun h1 h2 => hlt ⟨by omega, by omega⟩
        clear ST HZ PP HC HO HE2 HB HQ HX P1
        by_cases hk9 : (k : Int) < (n1 : Int)
        · have hk8 := hxit hk9
          clear hxit hlt
          go_wp2_with fail
          refine bodyPost_ret (results_cell_row rfl _ _ (w.heap.size + 1) _ _ (0, 0) _ rfl (P2.out.resAt _ _ _ _) Try.underlying27 rfl (by kernel_rfl)) rfl ?_
          exact P2.out.ret HBx.out
        · clear hxit hlt
          go_wp2_with fail
          refine bodyPost_ret (results_cell_row rfl _ _ (w.heap.size + 1) _ _ (0, 0) _ rfl (P2.out.resAt _ _ _ _) Try.underlying27 rfl (by kernel_rfl)) rfl ?_
          exact P2.out.ret HBx.out

theorem specFallDev_rd (cs : List Value) (d : DevD) (keep : Int) (w : World) (h : RdDev w cs d) (hw : wtDev d ≤ 1073741824) :
    Calls Try.prog 25 #[.agg cs.toArray, .int .i64 keep] w (AnsR RdDev (fallD d keep) w) := (specFallDev_ow cs d keep w h hw).mono (fun _ _ h => h.toR owDev_ok)

end Go.Proofs.Ytbeiocngiippgaa
