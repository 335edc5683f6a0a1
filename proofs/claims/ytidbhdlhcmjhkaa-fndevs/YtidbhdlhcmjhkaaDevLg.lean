/- The specification: l10Flush. -/
import Derived.Test.YtidbhdlhcmjhkaaDevLf
namespace Go.Proofs.Ytidbhdlhcmjhkaa
set_option maxRecDepth 4000
open Go.RowKit

theorem putL_snoc (s : List (List UInt8)) (c : List WrD) (x : WrD) : putL s (c ++ [x]) = (putL s c).set x.n.toNat x.b := by simp [putL, putStep, List.foldl_append]
/-- What l10Flush has behind k writes. -/
structure LfAt (W4 : World) (g m0 d0 : Nat) (secs : List (List UInt8)) (c : List WrD) (F0 : Fp) (Fs : Nat → Fp) (k : Nat) (Fk : Fp) (wr : World) : Prop where
  own : OwByteSS wr [.slice (some ⟨g, 0, none⟩) m0 d0] Fk (putL secs (c.take k))
  chg : Chg W4 wr (fun x => x = g)
  sub : ∀ x, Fk x → F0 x ∨ ∃ i, i < k ∧ i < c.length ∧ Fs i x
theorem LfAt.drew {W4 : World} {g m0 d0 : Nat} {secs : List (List UInt8)} {c : List WrD} {F0 : Fp} {Fs : Nat → Fp} {k : Nat} {Fk : Fp} {wr : World} (h : LfAt W4 g m0 d0 secs c F0 Fs k Fk wr) : LfAt W4 g m0 d0 secs c F0 Fs k Fk wr.drew := ⟨owByteSS_ok.keep h.own (fun _ _ => rfl), h.chg.drew, h.sub⟩

set_option maxHeartbeats 8000000 in
theorem specL10Flush_rd (q : Nat) (F : Fp) (d : DevD) (w : World) (h : BoxDev w q F d) (hok : devOk d = true) :
    Calls Try.prog 45 #[.pointer (some ⟨q, 0, none⟩)] w fun e w' => e = .returned (.tuple #[]) ∧ BxOut q F (flushD d) w w' := by
  obtain ⟨x0, m0, d0, x1, m1, d1, F0, F1, hq, r0, r1, k1, k2, hn⟩ := h.parts
  obtain ⟨f, hf⟩ : ∃ f, d.fuse = f := ⟨_, rfl⟩
  obtain ⟨b, hbb⟩ : ∃ b, d.down = b := ⟨_, rfl⟩
  rw [hf, hbb] at hq
  have HQ : Hd (BoxDev w q F d ∧ w.heap[q]? = some (.cells #[.slice x0 m0 d0, .slice x1 m1 d1, .int .i64 f, .bool b] 27 (0, 0))) := ⟨h, hq⟩
  have hm0 : d.secs.length = m0 := (owS_len r0).1
  have hm1 : d.cache.length = m1 := (owS_len r1).1
  obtain ⟨_, a2, a3, a4, a5, a6⟩ := devOk_parts hok
  rw [hm0] at a3 a2
  rw [hm1] at a4
  rw [hf] at a5 a6
  have HF : Hd (-1 ≤ f ∧ f ≤ 1000) := ⟨a5, a6⟩
  have HO : Hd ((∀ x ∈ d.cache, 0 ≤ x.n ∧ x.n ≤ (m0 : Int) - 1) ∧ (1 ≤ m0 ∧ m0 ≤ 64) ∧ m1 ≤ 40 ∧ d.secs.length = m0 ∧ d.cache.length = m1) := ⟨fun x hx => (a2 x hx).1, a3, a4, hm0, hm1⟩
  have HW : Hd (d.fuse = f ∧ d.down = b ∧ devOk d = true) := ⟨hf, hbb, hok⟩
  obtain ⟨R, hR⟩ : ∃ R, flushD d = R := ⟨_, rfl⟩
  have HR : Hd (flushD d = R) := ⟨hR⟩
  rw [hR]
  clear hR r0 r1 k1 k2 hn h hf hbb hok hm0 hm1 a2 a3 a4 a5 a6
  have c3 := cellsA hq 3 rfl
  clear hq
  cases b with
  | true =>
    have E2 : Hd (BxOut q F R w w) := ⟨by
      have e : R = d := by rw [← HR.out]; unfold flushD; rw [if_pos (by rw [HW.out.2.1]; simp)]
      rw [e]; exact ⟨⟨F, HQ.out.1, fun x hx => .inl hx⟩, Chg.refl w _⟩⟩
    clear HR HW HQ HO HF
    go_enter Try.func45, Try.ntmps45
    go_wp2_with fail
    refine bodyPost_ret (results_none rfl _ _ _) rfl ?_
    exact ⟨rfl, E2.out⟩
  | false =>
    have HE : Hd (R = if opOn f = true then { secs := putL d.secs d.cache, cache := [], fuse := opFuse f, down := opDown f false } else { d with fuse := opFuse f, down := opDown f false }) := ⟨by rw [← HR.out, opFlush d (by rw [HW.out.2.1, HW.out.2.2]; rfl), HW.out.1, HW.out.2.1]⟩
    clear HR HW
    go_enter Try.func45, Try.ntmps45
    go_wp2_with fail
    refine (specL10Op_any q _ _ f false _ HQ.out.2 HF).mono ?_
    rintro e W4 ⟨rfl, hC, hq4⟩
    obtain ⟨f2, hf2⟩ : ∃ f2, opFuse f = f2 := ⟨_, rfl⟩
    obtain ⟨b2, hb2⟩ : ∃ b2, opDown f false = b2 := ⟨_, rfl⟩
    obtain ⟨O, hO⟩ : ∃ O, opOn f = O := ⟨_, rfl⟩
    rw [hf2, hb2] at hq4 HE
    rw [hO] at HE ⊢
    have P4 : Hd (BoxDev W4 q F { d with fuse := f2, down := b2 } ∧ W4.heap[q]? = some (.cells #[.slice x0 m0 d0, .slice x1 m1 d1, .int .i64 f2, .bool b2] 27 (0, 0)) ∧ Chg w W4 (fun x => x = q)) := ⟨HQ.out.1.op HQ.out.2 hC hq4, hq4, hC⟩
    clear hC hq4 hf2 hb2 hO c3 HQ HF
    cases O with
    | false =>
      have E2 : Hd (BxOut q F R w W4) := ⟨⟨⟨F, by rw [HE.out]; exact P4.out.1, fun x hx => .inl hx⟩, P4.out.2.2.mono (fun x hx => .inl hx)⟩⟩
      clear HE P4 HO
      go_wp2_with fail
      refine bodyPost_ret (results_none rfl _ _ _) rfl ?_
      exact ⟨rfl, E2.out⟩
    | true =>
      have HE2 : Hd (R = { secs := putL d.secs d.cache, cache := [], fuse := f2, down := b2 }) := ⟨by rw [HE.out]; rfl⟩
      clear HE
      obtain ⟨y0, n0, e0, y1, n1, e1, F0, F1, hp, r0, r1, k1, k2, hn⟩ := P4.out.1.parts
      have hp' := hp
      rw [P4.out.2.1] at hp'
      simp only [Option.some.injEq, Obj.cells.injEq, Array.mk.injEq, List.cons.injEq, Value.slice.injEq, and_true] at hp'
      obtain ⟨⟨e2, e3, e4⟩, e5, e6, e7⟩ := hp'
      rw [← e2, ← e3, ← e4] at r0
      rw [← e5, ← e6, ← e7] at r1
      clear e2 e3 e4 e5 e6 e7 hp
      obtain ⟨g, hg⟩ : ∃ g, x0 = some ⟨g, 0, none⟩ := by
        obtain ⟨ao, cc, hsl, hcase⟩ := owS_slice r0
        simp only [Value.slice.injEq] at hsl
        rcases hcase with ⟨h1, h2⟩ | ⟨g, h1, _⟩
        · have h3 := HO.out.2.2.2.1; have h4 := HO.out.2.1; rw [show d.secs = [] from h2] at h3; simp at h3; omega
        · exact ⟨g, hsl.1.trans h1⟩
      subst hg
      obtain ⟨_, _, _, _, _, _, hF0g, _⟩ := owS_at r0 (by have := HO.out.2.1; omega : 0 < m0)
      obtain ⟨Fs, g1, hx1, hall, hsub, hap, hF1g⟩ : ∃ (Fs : Nat → Fp) (g1 : Nat), (d.cache = [] ∨ x1 = some ⟨g1, 0, none⟩) ∧ (∀ k a, d.cache[k]? = some a → ∃ c, c.length = 2 ∧ (∀ i v, c[i]? = some v → W4.cell? ⟨g1, k * 2 + i, none⟩ = some v) ∧ OwWr W4 c (Fs k) a) ∧ (∀ k x, k < d.cache.length → Fs k x → F1 x ∧ x ≠ g1) ∧ (∀ i j x, i < d.cache.length → j < d.cache.length → i ≠ j → Fs i x → ¬ Fs j x) ∧ (d.cache ≠ [] → F1 g1) := by
        obtain ⟨ao, cc, hsl, hcase⟩ := owS_slice r1
        simp only [Value.slice.injEq] at hsl
        rcases hcase with ⟨h1, h2⟩ | ⟨g1, h1, _⟩
        · have h3 : d.cache = [] := h2
          rw [h3]
          exact ⟨fun _ _ => False, 0, .inl rfl, fun k a h => by simp at h, fun k x h => by simp at h, fun i j x h => by simp at h, fun h => absurd rfl h⟩
        · have h4 := hsl.1.trans h1
          rw [h4] at r1
          obtain ⟨Fs, s1, s2, s3, s4⟩ := owS_all r1
          exact ⟨Fs, g1, .inr h4, s1, s2, s3, fun _ => s4⟩
      have PP : Hd ((∀ x, F0 x → ¬ F1 x) ∧ (∀ x, F x ↔ F0 x ∨ F1 x) ∧ ¬ F q ∧ F0 g ∧ q < W4.heap.size) := ⟨k1, k2, hn, hF0g, lt_of_block P4.out.2.1⟩
      have HC : Hd ((d.cache = [] ∨ x1 = some ⟨g1, 0, none⟩) ∧ (∀ k a, d.cache[k]? = some a → ∃ c, c.length = 2 ∧ (∀ i v, c[i]? = some v → W4.cell? ⟨g1, k * 2 + i, none⟩ = some v) ∧ OwWr W4 c (Fs k) a) ∧ (∀ k x, k < d.cache.length → Fs k x → F1 x ∧ x ≠ g1) ∧ (∀ i j x, i < d.cache.length → j < d.cache.length → i ≠ j → Fs i x → ¬ Fs j x) ∧ (d.cache ≠ [] → F1 g1)) := ⟨hx1, hall, hsub, hap, hF1g⟩
      have H0 : Hd (∃ Fk, LfAt W4 g m0 d0 d.secs d.cache F0 Fs 0 Fk W4) := ⟨F0, r0, Chg.refl W4 _, fun x hx => .inl hx⟩
      clear r0 r1 k1 k2 hn hF0g hx1 hall hsub hap hF1g
      go_wp2_with fail
      go_loopw [2] (fun i wr => ∃ k : Nat, k ≤ m1 ∧ i = .int .i64 k ∧ Hd (∃ Fk, LfAt W4 g m0 d0 d.secs d.cache F0 Fs k Fk wr)) (fun i _ => m1 - (intOf i).toNat)
      case atStart => exact ⟨0, Nat.zero_le _, rfl, H0⟩
      case round =>
        obtain ⟨k, hk, rfl, HK⟩ := hrel
        clear H0
        obtain ⟨Fk, hS⟩ := HK.out
        have ST : Hd (LfAt W4 g m0 d0 d.secs d.cache F0 Fs k Fk wr) := ⟨hS⟩
        clear HK hS
        have hqg : q ≠ g := fun e => PP.out.2.2.1 ((PP.out.2.1 q).2 (.inl (by rw [e]; exact PP.out.2.2.2.1)))
        have HB : Hd (wr.heap[q]? = some (.cells #[.slice (some ⟨g, 0, none⟩) m0 d0, .slice x1 m1 d1, .int .i64 f2, .bool b2] 27 (0, 0)) ∧ q ≠ g) := ⟨(ST.out.chg.block q PP.out.2.2.2.2 hqg).trans P4.out.2.1, hqg⟩
        clear hqg
        have c1 := cellsA HB.out.1 1 rfl
        by_cases hlt : k < m1
        · have hlt' : (k : Int) < (m1 : Int) := by omega
          have h0 : (0 : Int) ≤ (k : Int) := by omega
          have hm40 : m1 ≤ 40 := HO.out.2.2.1
          have hkl : k < d.cache.length := by rw [HO.out.2.2.2.2]; exact hlt
          have hne : d.cache ≠ [] := fun e => by rw [e] at hkl; simp at hkl
          have hx1 : x1 = some ⟨g1, 0, none⟩ := HC.out.1.resolve_left hne
          subst hx1
          obtain ⟨a, ha⟩ := get_some hkl
          obtain ⟨ce, hcn, hcell, y, l, cc, Fb, hce, hEb, hiff⟩ := HC.out.2.1 k a ha
          subst hce
          have hE' : OwB W4 [.slice y l cc] (Fs k) a.b := by
            have e : Fb = Fs k := by funext x; exact propext (hiff x).symm
            rw [← e]; exact hEb
          have hgg : g1 ≠ g := fun e => PP.out.1 g PP.out.2.2.2.1 (by rw [← e]; exact HC.out.2.2.2.2 hne)
          have u0 := hcell 0 _ rfl
          have u1 := hcell 1 _ rfl
          simp only [Nat.add_zero] at u0
          have hb1 : wr.heap[g1]? = W4.heap[g1]? := ST.out.chg.block g1 (World.block_lt_of_cell? W4 _ u0) hgg
          rw [← World.cell?_of_block (w := W4) (a := ⟨g1, k * 2, none⟩) hb1] at u0
          rw [← World.cell?_of_block (w := W4) (a := ⟨g1, k * 2 + 1, none⟩) hb1] at u1
          have hin := HO.out.1 a (List.mem_of_getElem? ha)
          obtain ⟨N, hN⟩ : ∃ N : Nat, a.n = (N : Int) := ⟨a.n.toNat, by omega⟩
          have hNm : N < m0 := by omega
          obtain ⟨ce2, _, _, hcl2, hcell2, hfr2, _, _⟩ := owS_at ST.out.own hNm
          obtain ⟨ov, hov⟩ := get_some (l := ce2) (j := 0) (by omega)
          have u2 := hcell2 0 ov hov
          simp only [Nat.mul_one, Nat.add_zero] at u2
          have u3 := hfr2 N
          rw [hN] at u0
          have HN : Hd (∃ Fk, LfAt W4 g m0 d0 d.secs d.cache F0 Fs (k + 1) Fk (wr.drew.setCell ⟨g, N, none⟩ (.slice y l cc))) := ⟨fun x => Fk x ∨ Fs k x, by
            have hdis : ∀ x, Fs k x → x ≠ g := fun x hx e => PP.out.1 g PP.out.2.2.2.1 (by rw [← e]; exact (HC.out.2.2.1 k x hkl hx).1)
            have r2 := owS_put2 owB_ok ST.out.drew.own hNm rfl (owB_ok.chg hE' ST.out.drew.chg hdis) (fun x hx hy => by
              rcases ST.out.sub x hy with h | ⟨i, h1, h2, h3⟩
              · exact PP.out.1 x h (HC.out.2.2.1 k x hkl hx).1
              · exact HC.out.2.2.2.1 i k x h2 hkl (by omega) h3 hx)
            rw [Nat.mul_one] at r2
            refine ⟨?_, ST.out.chg.drew.setCell rfl _, fun x hx => ?_⟩
            · rw [take_one ha, putL_snoc, hN, Int.toNat_natCast]; exact r2
            · rcases hx with hx | hx
              · rcases ST.out.sub x hx with h | ⟨i, h1, h2, h3⟩
                · exact .inl h
                · exact .inr ⟨i, by omega, h2, h3⟩
              · exact .inr ⟨k, by omega, hkl, hx⟩⟩
          have hNm' : (N : Int) < (m0 : Int) := by omega
          have hN0 : (0 : Int) ≤ (N : Int) := by omega
          have KS : Hd ((wr.drew.cell? ⟨q, 0, none⟩ = some (.slice (some ⟨g, 0, none⟩) m0 d0) ∧ wr.drew.cell? ⟨q, 1, none⟩ = some (.slice (some ⟨g1, 0, none⟩) m1 d1) ∧ wr.drew.cell? ⟨g1, k * 2, none⟩ = some (.int .i64 (N : Int)) ∧ wr.drew.cell? ⟨g1, k * 2 + 1, none⟩ = some (.slice y l cc)) ∧ q ≠ g ∧ g1 ≠ g) := ⟨⟨cellsA HB.out.1 0 rfl, cellsA HB.out.1 1 rfl, u0, u1⟩, HB.out.2, hgg⟩
          have u4 : wr.drew.cell? ⟨g, N, none⟩ = some ov := u2
          have u5 : wr.drew.frozen? ⟨g, N, none⟩ = false := u3
          clear hcn hcell hEb hiff hE' hb1 hin hN hcl2 hcell2 hfr2 hov ha hne hkl u0 u1 u2 u3
          have q0 := KS.out.1.1
          have q1 := KS.out.1.2.1
          have q2 := KS.out.1.2.2.1
          have q3 := KS.out.1.2.2.2
          go_wp2_with fail
          go_region_held (fun w' => w'.cell? ⟨q, 0, none⟩ = some (.slice (some ⟨g, 0, none⟩) m0 d0) ∧ w'.cell? ⟨q, 1, none⟩ = some (.slice (some ⟨g1, 0, none⟩) m1 d1) ∧ w'.cell? ⟨g1, k * 2, none⟩ = some (.int .i64 (N : Int)) ∧ w'.cell? ⟨g1, k * 2 + 1, none⟩ = some (.slice y l cc)) (first | exact KS.out.1 | exact ⟨cell_set KS.out.1.1 KS.out.2.1, cell_set KS.out.1.2.1 KS.out.2.1, cell_set KS.out.1.2.2.1 KS.out.2.2, cell_set KS.out.1.2.2.2 KS.out.2.2⟩) (fail)
          clear q0 q1 q2 q3 u4 u5 KS c1
          go_wp2_with fail
          go_roundw
          case rel => exact ⟨k + 1, by omega, by go_num, HN⟩
          case measure => simp [intOf]; omega
        · have hkm : k = m1 := by omega
          subst hkm
          have HZ : Hd (BxOut q F R w ((wr.alloc (.cells #[] 35)).setCell ⟨q, 1, none⟩ (.slice (some ⟨wr.heap.size, 0, none⟩) 0 0))) := ⟨by
            have hown := ST.out.own
            rw [List.take_of_length_le (by have := HO.out.2.2.2.2; omega)] at hown
            have hqw := lt_of_block HB.out.1
            have hsub : ∀ x, Fk x → F x := fun x hx => by
              rcases ST.out.sub x hx with h | ⟨i, h1, h2, h3⟩
              · exact (PP.out.2.1 x).2 (.inl h)
              · exact (PP.out.2.1 x).2 (.inr (HC.out.2.2.1 i x h2 h3).1)
            have hneq : ∀ x, Fk x → x ≠ q := fun x hx e => PP.out.2.2.1 (by rw [← e]; exact hsub x hx)
            have ho : ((wr.alloc (.cells #[] 35)).setCell ⟨q, 1, none⟩ (.slice (some ⟨wr.heap.size, 0, none⟩) 0 0)).ownsRow 0 35 2 (.slice (some ⟨wr.heap.size, 0, none⟩) 0 0) 0 (List.replicate 0 ([.int .i64 0, .slice none 0 0] : List Value)).flatten :=
              ⟨by simp, .inr ⟨wr.heap.size, 0, #[], rfl, Nat.zero_le _, block_set (heap_alloc_new wr _) (by omega), Nat.le_refl _, by unfold maxLen; omega, by simp, by simp⟩⟩
            have hP := owP_made (m := 0) (z := (⟨0, []⟩ : WrD)) ho rfl (lt_of_block (block_set (heap_alloc_new wr (.cells #[] 35)) (by omega))) (owWr_zero _)
            have hcw := P4.out.2.2.size
            have hcs := ST.out.chg.size
            refine ⟨⟨fun x => Fk x ∨ x = wr.heap.size, ?_, fun x hx => ?_⟩, ?_⟩
            · rw [HE2.out]
              exact boxDev_of (setA ((below_lit wr _).block q hqw |>.trans HB.out.1) 1 _ rfl) (owByteSS_ok.keep (owByteSS_ok.below hown (below_lit wr _)) (fun x hx => block_set rfl (hneq x hx))) ⟨_, _, _, rfl, hP⟩ (fun x hx hy => by have := owByteSS_ok.lt hown x hx; omega) (fun x => Iff.rfl) (fun hx => hx.elim (fun hx => hneq q hx rfl) (fun hx => by omega))
            · rcases hx with hx | hx
              · exact .inl (hsub x hx)
              · exact .inr (by omega)
            · exact (((P4.out.2.2.mono (fun x hx => .inl hx)).trans (ST.out.chg.mono (fun x hx => .inr ((PP.out.2.1 x).2 (.inl (by rw [hx]; exact PP.out.2.2.2.1)))))).alloc _).setCell (.inl rfl) _⟩
          have t1 := cell_below c1 (below_lit wr (.cells #[] 35))
          have t2 := freeA ((below_lit wr (.cells #[] 35)).block q (lt_of_block HB.out.1) |>.trans HB.out.1) 1
          clear ST PP HC P4 HO HE2 HB
          go_wp2_with fail
          go_end0
          exact ⟨rfl, HZ.out⟩

end Go.Proofs.Ytidbhdlhcmjhkaa
