/- The specification's copy of a device: l10Copy. -/
import Derived.Test.YtidbhdlhcmjhkaaDevWt
import Derived.Deep.RegionHeldLaw
namespace Go.Proofs.Ytidbhdlhcmjhkaa
set_option maxRecDepth 4000
open Go.RowKit

/-- A world in which the argument lies as it did. -/
def Good (w : World) (A : Array Value) (X : World) : Prop := Below w.heap.size w X ∧ X.heap[w.heap.size]? = some (.cells A 27 (0, 0))
theorem Good.alloc {w : World} {A : Array Value} {X : World} (h : Good w A X) (o : Obj) : Good w A (X.alloc o) := ⟨Below.next h.1 (below_lit X o), (Below.heap_alloc X o _ (lt_of_block h.2)).trans h.2⟩
theorem Good.below {w : World} {A : Array Value} {X Y : World} (h : Good w A X) (hb : Below X.heap.size X Y) : Good w A Y := ⟨Below.next h.1 hb, (hb.block _ (lt_of_block h.2)).trans h.2⟩
theorem Good.grown {w : World} {A : Array Value} {X Y : World} (h : Good w A X) {g : Option Nat} (hg : X.grownBy Y g) (hn : ∀ k, g = some k → w.heap.size < k) : Good w A Y :=
  ⟨⟨hg.os.trans h.1.os, hg.tape.trans h.1.tape, hg.output.trans h.1.output, Nat.le_trans h.1.size hg.size, fun y hy => (hg.block y (by have := h.1.size; omega) (fun e => by have := hn y e.symm; omega)).trans (h.1.block y hy)⟩,
    (hg.block _ (lt_of_block h.2) (fun e => by have := hn _ e.symm; omega)).trans h.2⟩
theorem Good.set {w : World} {A : Array Value} {X : World} (h : Good w A X) {q k : Nat} {v : Value} (hq : w.heap.size < q) : Good w A (X.setCell ⟨q, k, none⟩ v) := ⟨bset h.1 _ (by omega), block_set h.2 (by omega)⟩
theorem take_one {α : Type} {l : List α} {k : Nat} {a : α} (h : l[k]? = some a) : l.take (k + 1) = l.take k ++ [a] := by rw [List.take_add_one, h]; rfl
theorem CpParts.own0 {w wx : World} {A : Array Value} {q : Nat} {d : DevD} {x0 : Option Addr} {m0 d0 : Nat} {x1 : Option Addr} {m1 d1 : Nat} {F0 F1 : Fp} (h : CpParts w A q d x0 m0 d0 x1 m1 d1 F0 F1 wx) : ∀ y, (Value.slice x0 m0 d0).ownBlock = some y → w.heap.size < y := by
  intro y hy
  obtain ⟨v, css, Fs, e, P⟩ := h.r0
  simp only [List.cons.injEq, and_true] at e
  subst e
  have := h.low0 y (P.blk y hy)
  omega
theorem CpParts.own1 {w wx : World} {A : Array Value} {q : Nat} {d : DevD} {x0 : Option Addr} {m0 d0 : Nat} {x1 : Option Addr} {m1 d1 : Nat} {F0 F1 : Fp} (h : CpParts w A q d x0 m0 d0 x1 m1 d1 F0 F1 wx) : ∀ y, (Value.slice x1 m1 d1).ownBlock = some y → w.heap.size < y := by
  intro y hy
  obtain ⟨v, css, Fs, e, P⟩ := h.r1
  simp only [List.cons.injEq, and_true] at e
  subst e
  have := h.low1 y (P.blk y hy)
  omega
theorem CpAt.len {w wx : World} {A : Array Value} {q : Nat} {d : DevD} (h : CpAt w A q d wx) : ∃ x0 d0 x1 d1 F0 F1, CpParts w A q d x0 d.secs.length d0 x1 d.cache.length d1 F0 F1 wx := by
  obtain ⟨x0, m0, d0, x1, m1, d1, F0, F1, h⟩ := h.split
  obtain ⟨_, _, e0, _⟩ := owS_slice h.r0
  obtain ⟨_, _, e1, _⟩ := owS_slice h.r1
  simp only [Value.slice.injEq] at e0 e1
  obtain ⟨_, rfl, _⟩ := e0
  obtain ⟨_, rfl, _⟩ := e1
  exact ⟨x0, d0, x1, d1, F0, F1, h⟩

set_option linter.unusedSimpArgs false in
set_option maxHeartbeats 8000000 in
theorem specL10Copy_rd (cs : List Value) (d : DevD) (w : World) (h : RdDev w cs d) (hw : wtDev d ≤ 1073741824) :
    Calls Try.prog 43 #[.agg cs.toArray] w (AnsAgg OwDev d w) := by
  obtain ⟨x0, m0, d0, x1, m1, d1, rfl, r0, r1⟩ := h
  obtain ⟨secs, cache, f, b⟩ := d
  simp only [wtDev] at hw
  dsimp only at r0 r1 ⊢
  have R0 : Hd (RdByteSS w [.slice x0 m0 d0] secs ∧ wtS wtB secs ≤ 1073741824) := ⟨r0, by have h8 : wtS wtB secs + wtS wtWr cache ≤ 1073741824 := hw; omega⟩
  have R1 : Hd (RdWrS w [.slice x1 m1 d1] cache ∧ wtS wtWr cache ≤ 1073741824) := ⟨r1, by have h8 : wtS wtB secs + wtS wtWr cache ≤ 1073741824 := hw; omega⟩
  have hl0 : m0 ≤ 1073741824 := by have h7 := wtS_len wtB secs; have h8 := (rdByteSS_parts r0).2.1; have := R0.out.2; omega
  have hl1 : m1 ≤ 1073741824 := by have h7 := wtS_len wtWr cache; have h8 := (rdWrS_parts r1).2.1; have := R1.out.2; omega
  have HL : Hd (secs.length = m0 ∧ cache.length = m1) := ⟨(rdByteSS_parts r0).2.1, (rdWrS_parts r1).2.1⟩
  clear r0 r1 hw
  go_enter Try.func43, Try.ntmps43
  go_wp2_with fail
  obtain ⟨q, hq⟩ : ∃ q, w.heap.size + 1 + 1 = q := ⟨_, rfl⟩
  have H0 : Hd (CpAt w #[.slice x0 m0 d0, .slice x1 m1 d1, .int .i64 f, .bool b] q ⟨secs.take 0, [], f, b⟩ (((w.alloc (.cells #[.slice x0 m0 d0, .slice x1 m1 d1, .int .i64 f, .bool b] 27)).alloc (.cells #[.slice none 0 0, .slice none 0 0, .int .i64 0, .bool false] 27)).alloc (.cells #[.slice none 0 0, .slice none 0 0, .int .i64 f, .bool b] 27))) := ⟨by
    have hb := (below_lit2 w (.cells #[.slice x0 m0 d0, .slice x1 m1 d1, .int .i64 f, .bool b] 27) (.cells #[.slice none 0 0, .slice none 0 0, .int .i64 0, .bool false] 27))
    refine ⟨hb.alloc (by simp; omega) _, ?_, ?_, ⟨fun _ => False, ⟨[_, _, _, _], alloc_new _ _ (by rw [← hq]; simp), ⟨none, 0, 0, none, 0, 0, _, _, rfl, owS_nil _ 1 22 OwB, owS_nil _ 2 35 OwWr, fun _ h => h.elim, fun x => by simp⟩, fun h => h⟩, fun x h => h.elim⟩, by omega⟩
    · exact (Below.heap_alloc _ _ _ (by simp; omega)).trans (laid2 w _ _).1
    · exact (Below.heap_alloc _ _ _ (by simp)).trans (laid2 w _ _).2⟩
  rewrite [hq]
  generalize (((w.alloc (.cells #[.slice x0 m0 d0, .slice x1 m1 d1, .int .i64 f, .bool b] 27)).alloc (.cells #[.slice none 0 0, .slice none 0 0, .int .i64 0, .bool false] 27)).alloc (.cells #[.slice none 0 0, .slice none 0 0, .int .i64 f, .bool b] 27)) = W0 at *
  clear hq
  go_loopw [4] (fun i wr => ∃ k : Nat, k ≤ m0 ∧ i = .int .i64 k ∧ Hd (CpAt w #[.slice x0 m0 d0, .slice x1 m1 d1, .int .i64 f, .bool b] q ⟨secs.take k, [], f, b⟩ wr)) (fun i _ => m0 - (intOf i).toNat)
  case atStart => exact ⟨0, Nat.zero_le _, rfl, H0⟩
  case round =>
    obtain ⟨k, hk, rfl, HK⟩ := hrel
    clear H0
    have c0 := cellsA HK.out.arg 0 rfl
    by_cases hlt : k < m0
    · have hlt' : (k : Int) < (m0 : Int) := by omega
      have h0 : (0 : Int) ≤ (k : Int) := by omega
      obtain ⟨b0, o0, hx0, G⟩ : ∃ b0 o0, x0 = some ⟨b0, o0, none⟩ ∧ ∀ j a, secs[j]? = some a → ∃ c, c.length = 1 ∧ RdB w c a ∧ ∀ i v, c[i]? = some v → w.cell? ⟨b0, o0 + j * 1 + i, none⟩ = some v := by
        rcases (rdByteSS_parts R0.out.1).2.2 with h | h
        · have := HL.out.1; rw [h] at this; simp at this; omega
        · exact h
      subst hx0
      obtain ⟨a, ha⟩ := get_some (l := secs) (j := k) (by rw [HL.out.1]; exact hlt)
      obtain ⟨c, hcn, hR, hcell⟩ := G k a ha
      obtain ⟨y0, n0, e0, rfl, _, _⟩ := id hR
      have t0 := hcell 0 _ rfl
      simp only [Nat.mul_one, Nat.add_zero] at t0
      have hT : (secs.take k).length = k := by rw [List.length_take, HL.out.1]; omega
      obtain ⟨p0, s0, p1, s1, F0, F1, hP⟩ := HK.out.len
      dsimp only at hP
      rw [hT] at hP
      have PP : Hd (CpParts w #[.slice (some ⟨b0, o0, none⟩) m0 d0, .slice x1 m1 d1, .int .i64 f, .bool b] q ⟨secs.take k, [], f, b⟩ p0 k s0 p1 0 s1 F0 F1 wr) := ⟨hP⟩
      have HA : Hd (RdB w [.slice y0 n0 e0] a ∧ a.length ≤ 1073741824 ∧ (secs.take k).length = k ∧ secs.take (k + 1) = secs.take k ++ [a]) := ⟨hR, by have h7 := wtS_le wtB ha; have h8 := R0.out.2; unfold wtB at h7 h8; omega, hT, take_one ha⟩
      have hbw : b0 < w.heap.size := World.block_lt_of_cell? w _ t0
      have KK : Hd (∀ w', Good w #[.slice (some ⟨b0, o0, none⟩) m0 d0, .slice x1 m1 d1, .int .i64 f, .bool b] w' → (w'.cell? ⟨w.heap.size, 0, none⟩ = some (.slice (some ⟨b0, o0, none⟩) m0 d0) ∧ w'.cell? ⟨b0, o0 + k, none⟩ = some (.slice y0 n0 e0))) := ⟨fun w' hg => ⟨cellsA hg.2 0 rfl, cell_below t0 hg.1⟩⟩
      have Q0 : Hd (Good w #[.slice (some ⟨b0, o0, none⟩) m0 d0, .slice x1 m1 d1, .int .i64 f, .bool b] wr.drew) := ⟨(Below.drew hP.bel), hP.arg⟩
      have Q1 : Hd (Good w #[.slice (some ⟨b0, o0, none⟩) m0 d0, .slice x1 m1 d1, .int .i64 f, .bool b] ((wr.alloc (.cells #[] 5)).drew)) := ⟨⟨(Below.next PP.out.bel (below_lit wr _)).drew, (Q0.out.alloc (.cells #[] 5)).2⟩⟩
      have D1 : Hd (Below wr.heap.size wr (wr.alloc (.cells #[] 5)).drew) := ⟨(below_lit wr _).drew⟩
      have g0 := cellsA hP.box 0 rfl
      have g0d : wr.drew.cell? ⟨q, 0, none⟩ = some (.slice p0 k s0) := g0
      have g0e := cell_below g0 D1.out
      obtain ⟨i0, hi0, hz0, hs0, hb0⟩ := info_parts infoByteSS
      clear hcell hcn ha hR hT hP G HK t0
      have t0 := (KK.out _ Q0.out).2
      go_wp2_with fail
      refine wp_region_held_drew (S := fun w' => w'.cell? ⟨w.heap.size, 0, none⟩ = some (.slice (some ⟨b0, o0, none⟩) m0 d0) ∧ w'.cell? ⟨b0, o0 + k, none⟩ = some (.slice y0 n0 e0)) (by kernel_rfl) (KK.out _ Q0.out) (fun hHeld => ?_)
      refine wpAnyH_take (i := 0) (oi := { dst := some 18, op := Op.fieldAddr 27 (Operand.tmp 3) 0, type := 0, pos := _, after := #[], guard := none }) (v := ?_) rfl (by kernel_rfl) (by kernel_rfl) (by kernel_rfl) (fun _ _ _ h => h) (Or.inl ⟨by rfl, ?_⟩) (by assumption) ?_
      rotate_left
      · intro w9 hSw
        try dsimp only at hSw
        go_simp
        try with_reducible rfl
      simp only [Act.put, List.setIfInBounds_toArray, List.set_cons_zero, List.set_cons_succ]
      refine wpAnyH_take (i := 3) (oi := { dst := some 21, op := Op.fieldAddr 27 (Operand.tmp 1) 0, type := 0, pos := _, after := #[], guard := none }) (v := ?_) rfl (by kernel_rfl) (by kernel_rfl) (by kernel_rfl) (fun _ _ _ h => h) (Or.inl ⟨by rfl, ?_⟩) (by assumption) ?_
      rotate_left
      · intro w9 hSw
        try dsimp only at hSw
        go_simp
        try with_reducible rfl
      simp only [Act.put, List.setIfInBounds_toArray, List.set_cons_zero, List.set_cons_succ]
      refine wpAnyH_take (i := 4) (oi := { dst := some 22, op := Op.load 24 (Operand.tmp 21), type := 24, pos := _, after := #[{ on := 3, ground := Ground.data }], guard := none }) (v := ?_) rfl (by kernel_rfl) (by kernel_rfl) (by kernel_rfl) (fun _ _ _ h => h) (Or.inl ⟨by rfl, ?_⟩) (by assumption) ?_
      rotate_left
      · intro w9 hSw
        try dsimp only at hSw
        go_simp
        try with_reducible rfl
      simp only [Act.put, List.setIfInBounds_toArray, List.set_cons_zero, List.set_cons_succ]
      refine wpAnyH_take (i := 5) (oi := { dst := some 23, op := Op.move (Operand.tmp 4), type := 3, pos := _, after := #[], guard := none }) (v := ?_) rfl (by kernel_rfl) (by kernel_rfl) (by kernel_rfl) (fun _ _ _ h => h) (Or.inl ⟨by rfl, ?_⟩) (by assumption) ?_
      rotate_left
      · intro w9 hSw
        try dsimp only at hSw
        go_simp
        try with_reducible rfl
      simp only [Act.put, List.setIfInBounds_toArray, List.set_cons_zero, List.set_cons_succ]
      refine wpAnyH_take (i := 6) (oi := { dst := some 24, op := Op.indexAddr 24 (Operand.tmp 22) (Operand.tmp 23), type := 0, pos := _, after := #[{ on := 4, ground := Ground.data }, { on := 5, ground := Ground.data }], guard := none }) (v := ?_) rfl (by kernel_rfl) (by kernel_rfl) (by kernel_rfl) (fun _ _ _ h => h) (Or.inl ⟨by rfl, ?_⟩) (by assumption) ?_
      rotate_left
      · intro w9 hSw
        try dsimp only at hSw
        go_simp
        try with_reducible rfl
      simp only [Act.put, List.setIfInBounds_toArray, List.set_cons_zero, List.set_cons_succ]
      refine wpAnyH_take (i := 7) (oi := { dst := some 25, op := Op.load 22 (Operand.tmp 24), type := 22, pos := _, after := #[{ on := 6, ground := Ground.data }], guard := none }) (v := ?_) rfl (by kernel_rfl) (by kernel_rfl) (by kernel_rfl) (fun _ _ _ h => h) (Or.inl ⟨by rfl, ?_⟩) (by assumption) ?_
      rotate_left
      · intro w9 hSw
        try dsimp only at hSw
        go_simp
        try with_reducible rfl
      simp only [Act.put, List.setIfInBounds_toArray, List.set_cons_zero, List.set_cons_succ]
      refine wpAnyH_ready (rs := [1, 2]) (by kernel_rfl) (by simp) ?_
      refine AllReadyH.cons rfl (fun K hK => ?_) ?_
      · clear hHeld
        go_simp
        refine hK.out _ _ (KK.out _ Q0.out) (fun hHeld => ?_)
        clear hK K
        refine wpAnyH_ready (rs := [2]) (by kernel_rfl) (by simp) ?_
        refine AllReadyH.cons rfl (fun K hK => ?_) AllReadyH.nil
        clear hHeld
        go_simp
        refine hK.out _ _ (KK.out _ Q1.out) (fun hHeld => ?_)
        clear hK K
        refine wpAnyH_ready (rs := [8]) (by kernel_rfl) (by simp) ?_
        refine AllReadyH.cons rfl (fun K hK => ?_) AllReadyH.nil
        clear hHeld
        refine step_emp rfl (.tmp 20) (.tmp 25) rfl wr.heap.size rfl (heap_alloc_new wr _) y0 n0 e0 a rfl (rdB_ok.below HA.out.1 Q1.out.1) HA.out.2.1 ?_
        intro z0 zc wv hN hG
        obtain ⟨G, hE, hGl⟩ := hN
        have D2 : Hd (Below wr.heap.size wr wv) := ⟨below_grows D1.out hG (by simp) (Nat.le_refl _)⟩
        have g1 := cell_below g0 D2.out
        have g2 := cell_below g1 (below_lit wv (.cells #[.slice z0 n0 zc] 22))
        have D3 : Hd (Below wr.heap.size wr (wv.alloc (.cells #[.slice z0 n0 zc] 22))) := ⟨Below.next D2.out (below_lit wv _)⟩
        have Q2 : Hd (Good w #[.slice (some ⟨b0, o0, none⟩) m0 d0, .slice x1 m1 d1, .int .i64 f, .bool b] wv) := ⟨⟨Below.next PP.out.bel D2.out, (D2.out.block _ (lt_of_block PP.out.arg)).trans PP.out.arg⟩⟩
        have Q3 : Hd (Good w #[.slice (some ⟨b0, o0, none⟩) m0 d0, .slice x1 m1 d1, .int .i64 f, .bool b] (wv.alloc (.cells #[.slice z0 n0 zc] 22))) := ⟨Q2.out.alloc _⟩
        have HX : Hd (OwByteSS (wv.alloc (.cells #[.slice z0 n0 zc] 22)) [.slice p0 k s0] F0 (secs.take k) ∧ OwB (wv.alloc (.cells #[.slice z0 n0 zc] 22)) [.slice z0 n0 zc] G a ∧ (∀ x, G x → ¬ F0 x) ∧ (∀ x, G x → wr.heap.size ≤ x)) := ⟨owByteSS_ok.below PP.out.r0 D3.out, owB_ok.below hE (below_lit wv _), fun x hx hy => (by have h7 := hGl x hx; have h8 := owByteSS_ok.lt PP.out.r0 x hy; omega), hGl⟩
        clear hE hGl hG
        refine hK.out _ _ (KK.out _ Q2.out) (fun hHeld => ?_)
        clear hK K
        refine wpAnyH_ready (rs := [9]) (by kernel_rfl) (by simp) ?_
        refine AllReadyH.cons rfl (fun K hK => ?_) AllReadyH.nil
        clear hHeld
        go_simp
        refine hK.out _ _ (KK.out _ Q3.out) (fun hHeld => ?_)
        clear hK K
        refine wpAnyH_ready (rs := [10]) (by kernel_rfl) (by simp) ?_
        refine AllReadyH.cons rfl (fun K hK => ?_) AllReadyH.nil
        clear hHeld
        refine step_push rfl owB_ok (.tmp 19) (.tmp 27) 24 rfl Try.underlying24 hi0 hz0 hs0 hb0 rfl (by omega) (v := .slice p0 k s0) rfl HX.out.1 (q := wv.heap.size) (c' := [.slice z0 n0 zc]) (a' := a) (G := G) rfl (alloc_new wv _ rfl) rfl (by intro u hu; simp only [List.mem_cons, List.not_mem_nil, or_false] at hu; rcases hu with rfl; rfl) HX.out.2.1 HX.out.2.2.1 (by rw [HA.out.2.2.1]; unfold maxLen; omega) (by rw [HA.out.2.2.1]; omega) ?_
        intro v' wz hpush hgrow
        obtain ⟨x2, s2, hv'⟩ : ∃ x2 d2, v' = .slice x2 (k + 1) d2 := by
          obtain ⟨F', hOw, _⟩ := hpush
          obtain ⟨x2, d2, e, _⟩ := owS_slice hOw
          rw [List.length_append, HA.out.2.2.1] at e
          exact ⟨x2, d2, e⟩
        subst hv'
        have HPU : Hd ((∃ F' : Fp, OwByteSS wz [.slice x2 (k + 1) s2] F' (secs.take k ++ [a]) ∧ ∀ x, F' x → F0 x ∨ G x ∨ (wv.alloc (.cells #[.slice z0 n0 zc] 22)).heap.size ≤ x) ∧ (wv.alloc (.cells #[.slice z0 n0 zc] 22)).grownBy wz (Value.slice p0 k s0).ownBlock) := ⟨hpush, hgrow⟩
        have Q4 : Hd (Good w #[.slice (some ⟨b0, o0, none⟩) m0 d0, .slice x1 m1 d1, .int .i64 f, .bool b] wz) := ⟨Q3.out.grown hgrow PP.out.own0⟩
        have Q5 : Hd (Good w #[.slice (some ⟨b0, o0, none⟩) m0 d0, .slice x1 m1 d1, .int .i64 f, .bool b] (wz.setCell ⟨q, 0, none⟩ (.slice x2 (k + 1) s2))) := ⟨Q4.out.set (by have := PP.out.q2; omega)⟩
        have t5 := cellsA ((PP.out.below D3.out).boxAt0 hgrow) 0 rfl
        have f5 := freeA ((PP.out.below D3.out).boxAt0 hgrow) 0
        clear hpush hgrow
        refine hK.out _ _ (KK.out _ Q4.out) (fun hHeld => ?_)
        clear hK K
        refine wpAnyH_take (i := 11) (oi := { dst := some 29, op := Op.fieldAddr 27 (Operand.tmp 3) 0, type := 0, pos := _, after := #[{ on := 0, ground := Ground.phase }, { on := 1, ground := Ground.phase }, { on := 2, ground := Ground.phase }, { on := 3, ground := Ground.phase }, { on := 4, ground := Ground.phase }, { on := 5, ground := Ground.phase }, { on := 6, ground := Ground.phase }, { on := 7, ground := Ground.phase }, { on := 8, ground := Ground.phase }, { on := 9, ground := Ground.phase }, { on := 10, ground := Ground.phase }], guard := none }) (v := ?_) rfl (by kernel_rfl) (by kernel_rfl) (by kernel_rfl) (fun _ _ _ h => h) (Or.inl ⟨by rfl, ?_⟩) (by assumption) ?_
        rotate_left
        · intro w9 hSw
          try dsimp only at hSw
          go_simp
          try with_reducible rfl
        simp only [Act.put, List.setIfInBounds_toArray, List.set_cons_zero, List.set_cons_succ]
        refine wpAnyH_ready (rs := [12]) (by kernel_rfl) (by simp) ?_
        refine AllReadyH.cons rfl (fun K hK => ?_) AllReadyH.nil
        clear hHeld
        go_simp
        refine hK.out _ _ (KK.out _ Q5.out) (fun hHeld => ?_)
        clear hK K
        refine wpAnyH_done (by kernel_rfl) ?_ _
        obtain ⟨F', hOw, hF'⟩ := HPU.out.1
        have HZ : Hd (CpAt w #[.slice (some ⟨b0, o0, none⟩) m0 d0, .slice x1 m1 d1, .int .i64 f, .bool b] q ⟨secs.take (k + 1), [], f, b⟩ (wz.setCell ⟨q, 0, none⟩ (.slice x2 (k + 1) s2))) := ⟨by
          have h7 := ((PP.out.below D3.out).pushSec hOw hF' HX.out.2.2.2 (lt_of_block PP.out.box) (fun x hx => owWrS_ok.lt PP.out.r1 x hx) HPU.out.2).join
          rw [HA.out.2.2.2]; exact h7⟩
        clear HPU HX D1 D2 D3 Q0 Q1 Q2 Q3 Q4 Q5 KK PP HA hOw hF' t5 f5 g0 g0d g0e g1 g2 hi0 hz0 hs0 hb0 t0 c0 hHeld
        go_wp2_with fail
        go_roundw
        case rel => exact ⟨k + 1, by omega, by go_num, HZ⟩
        case measure => simp [intOf]; omega
      refine AllReadyH.cons rfl (fun K hK => ?_) ?_
      · clear hHeld
        go_simp
        refine hK.out _ _ (KK.out _ Q1.out) (fun hHeld => ?_)
        clear hK K
        refine wpAnyH_ready (rs := [1, 8]) (by kernel_rfl) (by simp) ?_
        refine AllReadyH.cons rfl (fun K hK => ?_) ?_
        · clear hHeld
          go_simp
          refine hK.out _ _ (KK.out _ Q1.out) (fun hHeld => ?_)
          clear hK K
          refine wpAnyH_ready (rs := [8]) (by kernel_rfl) (by simp) ?_
          refine AllReadyH.cons rfl (fun K hK => ?_) AllReadyH.nil
          clear hHeld
          refine step_emp rfl (.tmp 20) (.tmp 25) rfl wr.heap.size rfl (heap_alloc_new wr _) y0 n0 e0 a rfl (rdB_ok.below HA.out.1 Q1.out.1) HA.out.2.1 ?_
          intro z0 zc wv hN hG
          obtain ⟨G, hE, hGl⟩ := hN
          have D2 : Hd (Below wr.heap.size wr wv) := ⟨below_grows D1.out hG (by simp) (Nat.le_refl _)⟩
          have g1 := cell_below g0 D2.out
          have g2 := cell_below g1 (below_lit wv (.cells #[.slice z0 n0 zc] 22))
          have D3 : Hd (Below wr.heap.size wr (wv.alloc (.cells #[.slice z0 n0 zc] 22))) := ⟨Below.next D2.out (below_lit wv _)⟩
          have Q2 : Hd (Good w #[.slice (some ⟨b0, o0, none⟩) m0 d0, .slice x1 m1 d1, .int .i64 f, .bool b] wv) := ⟨⟨Below.next PP.out.bel D2.out, (D2.out.block _ (lt_of_block PP.out.arg)).trans PP.out.arg⟩⟩
          have Q3 : Hd (Good w #[.slice (some ⟨b0, o0, none⟩) m0 d0, .slice x1 m1 d1, .int .i64 f, .bool b] (wv.alloc (.cells #[.slice z0 n0 zc] 22))) := ⟨Q2.out.alloc _⟩
          have HX : Hd (OwByteSS (wv.alloc (.cells #[.slice z0 n0 zc] 22)) [.slice p0 k s0] F0 (secs.take k) ∧ OwB (wv.alloc (.cells #[.slice z0 n0 zc] 22)) [.slice z0 n0 zc] G a ∧ (∀ x, G x → ¬ F0 x) ∧ (∀ x, G x → wr.heap.size ≤ x)) := ⟨owByteSS_ok.below PP.out.r0 D3.out, owB_ok.below hE (below_lit wv _), fun x hx hy => (by have h7 := hGl x hx; have h8 := owByteSS_ok.lt PP.out.r0 x hy; omega), hGl⟩
          clear hE hGl hG
          refine hK.out _ _ (KK.out _ Q2.out) (fun hHeld => ?_)
          clear hK K
          refine wpAnyH_ready (rs := [9]) (by kernel_rfl) (by simp) ?_
          refine AllReadyH.cons rfl (fun K hK => ?_) AllReadyH.nil
          clear hHeld
          go_simp
          refine hK.out _ _ (KK.out _ Q3.out) (fun hHeld => ?_)
          clear hK K
          refine wpAnyH_ready (rs := [10]) (by kernel_rfl) (by simp) ?_
          refine AllReadyH.cons rfl (fun K hK => ?_) AllReadyH.nil
          clear hHeld
          refine step_push rfl owB_ok (.tmp 19) (.tmp 27) 24 rfl Try.underlying24 hi0 hz0 hs0 hb0 rfl (by omega) (v := .slice p0 k s0) rfl HX.out.1 (q := wv.heap.size) (c' := [.slice z0 n0 zc]) (a' := a) (G := G) rfl (alloc_new wv _ rfl) rfl (by intro u hu; simp only [List.mem_cons, List.not_mem_nil, or_false] at hu; rcases hu with rfl; rfl) HX.out.2.1 HX.out.2.2.1 (by rw [HA.out.2.2.1]; unfold maxLen; omega) (by rw [HA.out.2.2.1]; omega) ?_
          intro v' wz hpush hgrow
          obtain ⟨x2, s2, hv'⟩ : ∃ x2 d2, v' = .slice x2 (k + 1) d2 := by
            obtain ⟨F', hOw, _⟩ := hpush
            obtain ⟨x2, d2, e, _⟩ := owS_slice hOw
            rw [List.length_append, HA.out.2.2.1] at e
            exact ⟨x2, d2, e⟩
          subst hv'
          have HPU : Hd ((∃ F' : Fp, OwByteSS wz [.slice x2 (k + 1) s2] F' (secs.take k ++ [a]) ∧ ∀ x, F' x → F0 x ∨ G x ∨ (wv.alloc (.cells #[.slice z0 n0 zc] 22)).heap.size ≤ x) ∧ (wv.alloc (.cells #[.slice z0 n0 zc] 22)).grownBy wz (Value.slice p0 k s0).ownBlock) := ⟨hpush, hgrow⟩
          have Q4 : Hd (Good w #[.slice (some ⟨b0, o0, none⟩) m0 d0, .slice x1 m1 d1, .int .i64 f, .bool b] wz) := ⟨Q3.out.grown hgrow PP.out.own0⟩
          have Q5 : Hd (Good w #[.slice (some ⟨b0, o0, none⟩) m0 d0, .slice x1 m1 d1, .int .i64 f, .bool b] (wz.setCell ⟨q, 0, none⟩ (.slice x2 (k + 1) s2))) := ⟨Q4.out.set (by have := PP.out.q2; omega)⟩
          have t5 := cellsA ((PP.out.below D3.out).boxAt0 hgrow) 0 rfl
          have f5 := freeA ((PP.out.below D3.out).boxAt0 hgrow) 0
          clear hpush hgrow
          refine hK.out _ _ (KK.out _ Q4.out) (fun hHeld => ?_)
          clear hK K
          refine wpAnyH_take (i := 11) (oi := { dst := some 29, op := Op.fieldAddr 27 (Operand.tmp 3) 0, type := 0, pos := _, after := #[{ on := 0, ground := Ground.phase }, { on := 1, ground := Ground.phase }, { on := 2, ground := Ground.phase }, { on := 3, ground := Ground.phase }, { on := 4, ground := Ground.phase }, { on := 5, ground := Ground.phase }, { on := 6, ground := Ground.phase }, { on := 7, ground := Ground.phase }, { on := 8, ground := Ground.phase }, { on := 9, ground := Ground.phase }, { on := 10, ground := Ground.phase }], guard := none }) (v := ?_) rfl (by kernel_rfl) (by kernel_rfl) (by kernel_rfl) (fun _ _ _ h => h) (Or.inl ⟨by rfl, ?_⟩) (by assumption) ?_
          rotate_left
          · intro w9 hSw
            try dsimp only at hSw
            go_simp
            try with_reducible rfl
          simp only [Act.put, List.setIfInBounds_toArray, List.set_cons_zero, List.set_cons_succ]
          refine wpAnyH_ready (rs := [12]) (by kernel_rfl) (by simp) ?_
          refine AllReadyH.cons rfl (fun K hK => ?_) AllReadyH.nil
          clear hHeld
          go_simp
          refine hK.out _ _ (KK.out _ Q5.out) (fun hHeld => ?_)
          clear hK K
          refine wpAnyH_done (by kernel_rfl) ?_ _
          obtain ⟨F', hOw, hF'⟩ := HPU.out.1
          have HZ : Hd (CpAt w #[.slice (some ⟨b0, o0, none⟩) m0 d0, .slice x1 m1 d1, .int .i64 f, .bool b] q ⟨secs.take (k + 1), [], f, b⟩ (wz.setCell ⟨q, 0, none⟩ (.slice x2 (k + 1) s2))) := ⟨by
            have h7 := ((PP.out.below D3.out).pushSec hOw hF' HX.out.2.2.2 (lt_of_block PP.out.box) (fun x hx => owWrS_ok.lt PP.out.r1 x hx) HPU.out.2).join
            rw [HA.out.2.2.2]; exact h7⟩
          clear HPU HX D1 D2 D3 Q0 Q1 Q2 Q3 Q4 Q5 KK PP HA hOw hF' t5 f5 g0 g0d g0e g1 g2 hi0 hz0 hs0 hb0 t0 c0 hHeld
          go_wp2_with fail
          go_roundw
          case rel => exact ⟨k + 1, by omega, by go_num, HZ⟩
          case measure => simp [intOf]; omega
        refine AllReadyH.cons rfl (fun K hK => ?_) ?_
        · clear hHeld
          refine step_emp rfl (.tmp 20) (.tmp 25) rfl wr.heap.size rfl (heap_alloc_new wr _) y0 n0 e0 a rfl (rdB_ok.below HA.out.1 Q1.out.1) HA.out.2.1 ?_
          intro z0 zc wv hN hG
          obtain ⟨G, hE, hGl⟩ := hN
          have D2 : Hd (Below wr.heap.size wr wv) := ⟨below_grows D1.out hG (by simp) (Nat.le_refl _)⟩
          have g1 := cell_below g0 D2.out
          have g2 := cell_below g1 (below_lit wv (.cells #[.slice z0 n0 zc] 22))
          have D3 : Hd (Below wr.heap.size wr (wv.alloc (.cells #[.slice z0 n0 zc] 22))) := ⟨Below.next D2.out (below_lit wv _)⟩
          have Q2 : Hd (Good w #[.slice (some ⟨b0, o0, none⟩) m0 d0, .slice x1 m1 d1, .int .i64 f, .bool b] wv) := ⟨⟨Below.next PP.out.bel D2.out, (D2.out.block _ (lt_of_block PP.out.arg)).trans PP.out.arg⟩⟩
          have Q3 : Hd (Good w #[.slice (some ⟨b0, o0, none⟩) m0 d0, .slice x1 m1 d1, .int .i64 f, .bool b] (wv.alloc (.cells #[.slice z0 n0 zc] 22))) := ⟨Q2.out.alloc _⟩
          have HX : Hd (OwByteSS (wv.alloc (.cells #[.slice z0 n0 zc] 22)) [.slice p0 k s0] F0 (secs.take k) ∧ OwB (wv.alloc (.cells #[.slice z0 n0 zc] 22)) [.slice z0 n0 zc] G a ∧ (∀ x, G x → ¬ F0 x) ∧ (∀ x, G x → wr.heap.size ≤ x)) := ⟨owByteSS_ok.below PP.out.r0 D3.out, owB_ok.below hE (below_lit wv _), fun x hx hy => (by have h7 := hGl x hx; have h8 := owByteSS_ok.lt PP.out.r0 x hy; omega), hGl⟩
          clear hE hGl hG
          refine hK.out _ _ (KK.out _ Q2.out) (fun hHeld => ?_)
          clear hK K
          refine wpAnyH_ready (rs := [1, 9]) (by kernel_rfl) (by simp) ?_
          refine AllReadyH.cons rfl (fun K hK => ?_) ?_
          · clear hHeld
            go_simp
            refine hK.out _ _ (KK.out _ Q2.out) (fun hHeld => ?_)
            clear hK K
            refine wpAnyH_ready (rs := [9]) (by kernel_rfl) (by simp) ?_
            refine AllReadyH.cons rfl (fun K hK => ?_) AllReadyH.nil
            clear hHeld
            go_simp
            refine hK.out _ _ (KK.out _ Q3.out) (fun hHeld => ?_)
            clear hK K
            refine wpAnyH_ready (rs := [10]) (by kernel_rfl) (by simp) ?_
            refine AllReadyH.cons rfl (fun K hK => ?_) AllReadyH.nil
            clear hHeld
            refine step_push rfl owB_ok (.tmp 19) (.tmp 27) 24 rfl Try.underlying24 hi0 hz0 hs0 hb0 rfl (by omega) (v := .slice p0 k s0) rfl HX.out.1 (q := wv.heap.size) (c' := [.slice z0 n0 zc]) (a' := a) (G := G) rfl (alloc_new wv _ rfl) rfl (by intro u hu; simp only [List.mem_cons, List.not_mem_nil, or_false] at hu; rcases hu with rfl; rfl) HX.out.2.1 HX.out.2.2.1 (by rw [HA.out.2.2.1]; unfold maxLen; omega) (by rw [HA.out.2.2.1]; omega) ?_
            intro v' wz hpush hgrow
            obtain ⟨x2, s2, hv'⟩ : ∃ x2 d2, v' = .slice x2 (k + 1) d2 := by
              obtain ⟨F', hOw, _⟩ := hpush
              obtain ⟨x2, d2, e, _⟩ := owS_slice hOw
              rw [List.length_append, HA.out.2.2.1] at e
              exact ⟨x2, d2, e⟩
            subst hv'
            have HPU : Hd ((∃ F' : Fp, OwByteSS wz [.slice x2 (k + 1) s2] F' (secs.take k ++ [a]) ∧ ∀ x, F' x → F0 x ∨ G x ∨ (wv.alloc (.cells #[.slice z0 n0 zc] 22)).heap.size ≤ x) ∧ (wv.alloc (.cells #[.slice z0 n0 zc] 22)).grownBy wz (Value.slice p0 k s0).ownBlock) := ⟨hpush, hgrow⟩
            have Q4 : Hd (Good w #[.slice (some ⟨b0, o0, none⟩) m0 d0, .slice x1 m1 d1, .int .i64 f, .bool b] wz) := ⟨Q3.out.grown hgrow PP.out.own0⟩
            have Q5 : Hd (Good w #[.slice (some ⟨b0, o0, none⟩) m0 d0, .slice x1 m1 d1, .int .i64 f, .bool b] (wz.setCell ⟨q, 0, none⟩ (.slice x2 (k + 1) s2))) := ⟨Q4.out.set (by have := PP.out.q2; omega)⟩
            have t5 := cellsA ((PP.out.below D3.out).boxAt0 hgrow) 0 rfl
            have f5 := freeA ((PP.out.below D3.out).boxAt0 hgrow) 0
            clear hpush hgrow
            refine hK.out _ _ (KK.out _ Q4.out) (fun hHeld => ?_)
            clear hK K
            refine wpAnyH_take (i := 11) (oi := { dst := some 29, op := Op.fieldAddr 27 (Operand.tmp 3) 0, type := 0, pos := _, after := #[{ on := 0, ground := Ground.phase }, { on := 1, ground := Ground.phase }, { on := 2, ground := Ground.phase }, { on := 3, ground := Ground.phase }, { on := 4, ground := Ground.phase }, { on := 5, ground := Ground.phase }, { on := 6, ground := Ground.phase }, { on := 7, ground := Ground.phase }, { on := 8, ground := Ground.phase }, { on := 9, ground := Ground.phase }, { on := 10, ground := Ground.phase }], guard := none }) (v := ?_) rfl (by kernel_rfl) (by kernel_rfl) (by kernel_rfl) (fun _ _ _ h => h) (Or.inl ⟨by rfl, ?_⟩) (by assumption) ?_
            rotate_left
            · intro w9 hSw
              try dsimp only at hSw
              go_simp
              try with_reducible rfl
            simp only [Act.put, List.setIfInBounds_toArray, List.set_cons_zero, List.set_cons_succ]
            refine wpAnyH_ready (rs := [12]) (by kernel_rfl) (by simp) ?_
            refine AllReadyH.cons rfl (fun K hK => ?_) AllReadyH.nil
            clear hHeld
            go_simp
            refine hK.out _ _ (KK.out _ Q5.out) (fun hHeld => ?_)
            clear hK K
            refine wpAnyH_done (by kernel_rfl) ?_ _
            obtain ⟨F', hOw, hF'⟩ := HPU.out.1
            have HZ : Hd (CpAt w #[.slice (some ⟨b0, o0, none⟩) m0 d0, .slice x1 m1 d1, .int .i64 f, .bool b] q ⟨secs.take (k + 1), [], f, b⟩ (wz.setCell ⟨q, 0, none⟩ (.slice x2 (k + 1) s2))) := ⟨by
              have h7 := ((PP.out.below D3.out).pushSec hOw hF' HX.out.2.2.2 (lt_of_block PP.out.box) (fun x hx => owWrS_ok.lt PP.out.r1 x hx) HPU.out.2).join
              rw [HA.out.2.2.2]; exact h7⟩
            clear HPU HX D1 D2 D3 Q0 Q1 Q2 Q3 Q4 Q5 KK PP HA hOw hF' t5 f5 g0 g0d g0e g1 g2 hi0 hz0 hs0 hb0 t0 c0 hHeld
            go_wp2_with fail
            go_roundw
            case rel => exact ⟨k + 1, by omega, by go_num, HZ⟩
            case measure => simp [intOf]; omega
          refine AllReadyH.cons rfl (fun K hK => ?_) ?_
          · clear hHeld
            go_simp
            refine hK.out _ _ (KK.out _ Q3.out) (fun hHeld => ?_)
            clear hK K
            refine wpAnyH_ready (rs := [1]) (by kernel_rfl) (by simp) ?_
            refine AllReadyH.cons rfl (fun K hK => ?_) AllReadyH.nil
            clear hHeld
            go_simp
            refine hK.out _ _ (KK.out _ Q3.out) (fun hHeld => ?_)
            clear hK K
            refine wpAnyH_ready (rs := [10]) (by kernel_rfl) (by simp) ?_
            refine AllReadyH.cons rfl (fun K hK => ?_) AllReadyH.nil
            clear hHeld
            refine step_push rfl owB_ok (.tmp 19) (.tmp 27) 24 rfl Try.underlying24 hi0 hz0 hs0 hb0 rfl (by omega) (v := .slice p0 k s0) rfl HX.out.1 (q := wv.heap.size) (c' := [.slice z0 n0 zc]) (a' := a) (G := G) rfl (alloc_new wv _ rfl) rfl (by intro u hu; simp only [List.mem_cons, List.not_mem_nil, or_false] at hu; rcases hu with rfl; rfl) HX.out.2.1 HX.out.2.2.1 (by rw [HA.out.2.2.1]; unfold maxLen; omega) (by rw [HA.out.2.2.1]; omega) ?_
            intro v' wz hpush hgrow
            obtain ⟨x2, s2, hv'⟩ : ∃ x2 d2, v' = .slice x2 (k + 1) d2 := by
              obtain ⟨F', hOw, _⟩ := hpush
              obtain ⟨x2, d2, e, _⟩ := owS_slice hOw
              rw [List.length_append, HA.out.2.2.1] at e
              exact ⟨x2, d2, e⟩
            subst hv'
            have HPU : Hd ((∃ F' : Fp, OwByteSS wz [.slice x2 (k + 1) s2] F' (secs.take k ++ [a]) ∧ ∀ x, F' x → F0 x ∨ G x ∨ (wv.alloc (.cells #[.slice z0 n0 zc] 22)).heap.size ≤ x) ∧ (wv.alloc (.cells #[.slice z0 n0 zc] 22)).grownBy wz (Value.slice p0 k s0).ownBlock) := ⟨hpush, hgrow⟩
            have Q4 : Hd (Good w #[.slice (some ⟨b0, o0, none⟩) m0 d0, .slice x1 m1 d1, .int .i64 f, .bool b] wz) := ⟨Q3.out.grown hgrow PP.out.own0⟩
            have Q5 : Hd (Good w #[.slice (some ⟨b0, o0, none⟩) m0 d0, .slice x1 m1 d1, .int .i64 f, .bool b] (wz.setCell ⟨q, 0, none⟩ (.slice x2 (k + 1) s2))) := ⟨Q4.out.set (by have := PP.out.q2; omega)⟩
            have t5 := cellsA ((PP.out.below D3.out).boxAt0 hgrow) 0 rfl
            have f5 := freeA ((PP.out.below D3.out).boxAt0 hgrow) 0
            clear hpush hgrow
            refine hK.out _ _ (KK.out _ Q4.out) (fun hHeld => ?_)
            clear hK K
            refine wpAnyH_take (i := 11) (oi := { dst := some 29, op := Op.fieldAddr 27 (Operand.tmp 3) 0, type := 0, pos := _, after := #[{ on := 0, ground := Ground.phase }, { on := 1, ground := Ground.phase }, { on := 2, ground := Ground.phase }, { on := 3, ground := Ground.phase }, { on := 4, ground := Ground.phase }, { on := 5, ground := Ground.phase }, { on := 6, ground := Ground.phase }, { on := 7, ground := Ground.phase }, { on := 8, ground := Ground.phase }, { on := 9, ground := Ground.phase }, { on := 10, ground := Ground.phase }], guard := none }) (v := ?_) rfl (by kernel_rfl) (by kernel_rfl) (by kernel_rfl) (fun _ _ _ h => h) (Or.inl ⟨by rfl, ?_⟩) (by assumption) ?_
            rotate_left
            · intro w9 hSw
              try dsimp only at hSw
              go_simp
              try with_reducible rfl
            simp only [Act.put, List.setIfInBounds_toArray, List.set_cons_zero, List.set_cons_succ]
            refine wpAnyH_ready (rs := [12]) (by kernel_rfl) (by simp) ?_
            refine AllReadyH.cons rfl (fun K hK => ?_) AllReadyH.nil
            clear hHeld
            go_simp
            refine hK.out _ _ (KK.out _ Q5.out) (fun hHeld => ?_)
            clear hK K
            refine wpAnyH_done (by kernel_rfl) ?_ _
            obtain ⟨F', hOw, hF'⟩ := HPU.out.1
            have HZ : Hd (CpAt w #[.slice (some ⟨b0, o0, none⟩) m0 d0, .slice x1 m1 d1, .int .i64 f, .bool b] q ⟨secs.take (k + 1), [], f, b⟩ (wz.setCell ⟨q, 0, none⟩ (.slice x2 (k + 1) s2))) := ⟨by
              have h7 := ((PP.out.below D3.out).pushSec hOw hF' HX.out.2.2.2 (lt_of_block PP.out.box) (fun x hx => owWrS_ok.lt PP.out.r1 x hx) HPU.out.2).join
              rw [HA.out.2.2.2]; exact h7⟩
            clear HPU HX D1 D2 D3 Q0 Q1 Q2 Q3 Q4 Q5 KK PP HA hOw hF' t5 f5 g0 g0d g0e g1 g2 hi0 hz0 hs0 hb0 t0 c0 hHeld
            go_wp2_with fail
            go_roundw
            case rel => exact ⟨k + 1, by omega, by go_num, HZ⟩
            case measure => simp [intOf]; omega
          exact AllReadyH.nil
        exact AllReadyH.nil
      exact AllReadyH.nil
    · have HC1 : Hd (CpAt w #[.slice x0 m0 d0, .slice x1 m1 d1, .int .i64 f, .bool b] q ⟨secs, cache.take 0, f, b⟩ wr) := ⟨by
        have h7 := HK.out
        rw [List.take_of_length_le (by have := HL.out.1; omega)] at h7
        exact h7⟩
      clear HK
      go_wp2_with fail
      clear c0
      go_loopw [5] (fun i wr => ∃ k : Nat, k ≤ m1 ∧ i = .int .i64 k ∧ Hd (CpAt w #[.slice x0 m0 d0, .slice x1 m1 d1, .int .i64 f, .bool b] q ⟨secs, cache.take k, f, b⟩ wr)) (fun i _ => m1 - (intOf i).toNat)
      case atStart => exact ⟨0, Nat.zero_le _, rfl, HC1⟩
      case round =>
        obtain ⟨k, hk, rfl, HK⟩ := hrel
        clear HC1
        have c1 := cellsA HK.out.arg 1 rfl
        by_cases hlt : k < m1
        · have hlt' : (k : Int) < (m1 : Int) := by omega
          have h0 : (0 : Int) ≤ (k : Int) := by omega
          obtain ⟨b1, o1, hx1, G⟩ : ∃ b1 o1, x1 = some ⟨b1, o1, none⟩ ∧ ∀ j a, cache[j]? = some a → ∃ c, c.length = 2 ∧ RdWr w c a ∧ ∀ i v, c[i]? = some v → w.cell? ⟨b1, o1 + j * 2 + i, none⟩ = some v := by
            rcases (rdWrS_parts R1.out.1).2.2 with h | h
            · have := HL.out.2; rw [h] at this; simp at this; omega
            · exact h
          subst hx1
          obtain ⟨a, ha⟩ := get_some (l := cache) (j := k) (by rw [HL.out.2]; exact hlt)
          obtain ⟨c, hcn, hR, hcell⟩ := G k a ha
          obtain ⟨y0, n0, e0, rfl, hr⟩ := hR
          have t0 := hcell 0 _ rfl
          have t1 := hcell 1 _ rfl
          simp only [Nat.add_zero] at t0
          obtain ⟨nn, hnn⟩ : ∃ nn, a.n = nn := ⟨_, rfl⟩
          rw [hnn] at t0
          have hT : (cache.take k).length = k := by rw [List.length_take, HL.out.2]; omega
          obtain ⟨p0, s0, p1, s1, F0, F1, hP⟩ := HK.out.len
          dsimp only at hP
          rw [hT] at hP
          obtain ⟨l0, hl0'⟩ : ∃ l0, secs.length = l0 := ⟨_, rfl⟩
          rw [hl0'] at hP
          have PP : Hd (CpParts w #[.slice x0 m0 d0, .slice (some ⟨b1, o1, none⟩) m1 d1, .int .i64 f, .bool b] q ⟨secs, cache.take k, f, b⟩ p0 l0 s0 p1 k s1 F0 F1 wr) := ⟨hP⟩
          have HA : Hd (RdB w [.slice y0 n0 e0] a.b ∧ a.b.length ≤ 1073741824 ∧ (cache.take k).length = k ∧ cache.take (k + 1) = cache.take k ++ [a] ∧ a.n = nn) := ⟨hr, by have h7 := wtS_le wtWr ha; have h8 := R1.out.2; unfold wtWr wtB at h7 h8; omega, hT, take_one ha, hnn⟩
          have hbw : b1 < w.heap.size := World.block_lt_of_cell? w _ t0
          have KK : Hd (∀ w', Good w #[.slice x0 m0 d0, .slice (some ⟨b1, o1, none⟩) m1 d1, .int .i64 f, .bool b] w' → (w'.cell? ⟨w.heap.size, 1, none⟩ = some (.slice (some ⟨b1, o1, none⟩) m1 d1) ∧ w'.cell? ⟨b1, o1 + k * 2, none⟩ = some (.int .i64 nn) ∧ w'.cell? ⟨b1, o1 + k * 2 + 1, none⟩ = some (.slice y0 n0 e0))) := ⟨fun w' hg => ⟨cellsA hg.2 1 rfl, cell_below t0 hg.1, cell_below t1 hg.1⟩⟩
          have Q0 : Hd (Good w #[.slice x0 m0 d0, .slice (some ⟨b1, o1, none⟩) m1 d1, .int .i64 f, .bool b] wr.drew) := ⟨(Below.drew hP.bel), hP.arg⟩
          have Q1 : Hd (Good w #[.slice x0 m0 d0, .slice (some ⟨b1, o1, none⟩) m1 d1, .int .i64 f, .bool b] ((wr.alloc (.cells #[] 5)).drew)) := ⟨⟨(Below.next PP.out.bel (below_lit wr _)).drew, (Q0.out.alloc (.cells #[] 5)).2⟩⟩
          have D1 : Hd (Below wr.heap.size wr (wr.alloc (.cells #[] 5)).drew) := ⟨(below_lit wr _).drew⟩
          have g0 := cellsA hP.box 1 rfl
          have g0d : wr.drew.cell? ⟨q, 1, none⟩ = some (.slice p1 k s1) := g0
          have g0e := cell_below g0 D1.out
          obtain ⟨i1, hi1, hz1, hs1, hb1⟩ := info_parts infoWrS
          clear hcell hcn ha hr hT hP G HK t0 t1 hnn hl0'
          have t0 := (KK.out _ Q0.out).2.1
          have t1 := (KK.out _ Q0.out).2.2
          go_wp2_with fail
          refine wp_region_held_drew (S := fun w' => w'.cell? ⟨w.heap.size, 1, none⟩ = some (.slice (some ⟨b1, o1, none⟩) m1 d1) ∧ w'.cell? ⟨b1, o1 + k * 2, none⟩ = some (.int .i64 nn) ∧ w'.cell? ⟨b1, o1 + k * 2 + 1, none⟩ = some (.slice y0 n0 e0)) (by kernel_rfl) (KK.out _ Q0.out) (fun hHeld => ?_)
          refine wpAnyH_take (i := 0) (oi := { dst := some 37, op := Op.fieldAddr 27 (Operand.tmp 3) 1, type := 0, pos := _, after := #[], guard := none }) (v := ?_) rfl (by kernel_rfl) (by kernel_rfl) (by kernel_rfl) (fun _ _ _ h => h) (Or.inl ⟨by rfl, ?_⟩) (by assumption) ?_
          rotate_left
          · intro w9 hSw
            try dsimp only at hSw
            go_simp
            try with_reducible rfl
          simp only [Act.put, List.setIfInBounds_toArray, List.set_cons_zero, List.set_cons_succ]
          refine wpAnyH_take (i := 2) (oi := { dst := some 39, op := Op.fieldAddr 27 (Operand.tmp 1) 1, type := 0, pos := _, after := #[], guard := none }) (v := ?_) rfl (by kernel_rfl) (by kernel_rfl) (by kernel_rfl) (fun _ _ _ h => h) (Or.inl ⟨by rfl, ?_⟩) (by assumption) ?_
          rotate_left
          · intro w9 hSw
            try dsimp only at hSw
            go_simp
            try with_reducible rfl
          simp only [Act.put, List.setIfInBounds_toArray, List.set_cons_zero, List.set_cons_succ]
          refine wpAnyH_take (i := 3) (oi := { dst := some 40, op := Op.load 25 (Operand.tmp 39), type := 25, pos := _, after := #[{ on := 2, ground := Ground.data }], guard := none }) (v := ?_) rfl (by kernel_rfl) (by kernel_rfl) (by kernel_rfl) (fun _ _ _ h => h) (Or.inl ⟨by rfl, ?_⟩) (by assumption) ?_
          rotate_left
          · intro w9 hSw
            try dsimp only at hSw
            go_simp
            try with_reducible rfl
          simp only [Act.put, List.setIfInBounds_toArray, List.set_cons_zero, List.set_cons_succ]
          refine wpAnyH_take (i := 4) (oi := { dst := some 41, op := Op.move (Operand.tmp 5), type := 3, pos := _, after := #[], guard := none }) (v := ?_) rfl (by kernel_rfl) (by kernel_rfl) (by kernel_rfl) (fun _ _ _ h => h) (Or.inl ⟨by rfl, ?_⟩) (by assumption) ?_
          rotate_left
          · intro w9 hSw
            try dsimp only at hSw
            go_simp
            try with_reducible rfl
          simp only [Act.put, List.setIfInBounds_toArray, List.set_cons_zero, List.set_cons_succ]
          refine wpAnyH_take (i := 5) (oi := { dst := some 42, op := Op.indexAddr 25 (Operand.tmp 40) (Operand.tmp 41), type := 0, pos := _, after := #[{ on := 3, ground := Ground.data }, { on := 4, ground := Ground.data }], guard := none }) (v := ?_) rfl (by kernel_rfl) (by kernel_rfl) (by kernel_rfl) (fun _ _ _ h => h) (Or.inl ⟨by rfl, ?_⟩) (by assumption) ?_
          rotate_left
          · intro w9 hSw
            try dsimp only at hSw
            go_simp
            try with_reducible rfl
          simp only [Act.put, List.setIfInBounds_toArray, List.set_cons_zero, List.set_cons_succ]
          refine wpAnyH_take (i := 6) (oi := { dst := some 43, op := Op.fieldAddr 35 (Operand.tmp 42) 0, type := 0, pos := _, after := #[{ on := 5, ground := Ground.data }], guard := none }) (v := ?_) rfl (by kernel_rfl) (by kernel_rfl) (by kernel_rfl) (fun _ _ _ h => h) (Or.inl ⟨by rfl, ?_⟩) (by assumption) ?_
          rotate_left
          · intro w9 hSw
            try dsimp only at hSw
            go_simp
            try with_reducible rfl
          simp only [Act.put, List.setIfInBounds_toArray, List.set_cons_zero, List.set_cons_succ]
          refine wpAnyH_take (i := 7) (oi := { dst := some 44, op := Op.load 3 (Operand.tmp 43), type := 3, pos := _, after := #[{ on := 6, ground := Ground.data }], guard := none }) (v := ?_) rfl (by kernel_rfl) (by kernel_rfl) (by kernel_rfl) (fun _ _ _ h => h) (Or.inl ⟨by rfl, ?_⟩) (by assumption) ?_
          rotate_left
          · intro w9 hSw
            try dsimp only at hSw
            go_simp
            try with_reducible rfl
          simp only [Act.put, List.setIfInBounds_toArray, List.set_cons_zero, List.set_cons_succ]
          refine wpAnyH_take (i := 9) (oi := { dst := some 46, op := Op.fieldAddr 27 (Operand.tmp 1) 1, type := 0, pos := _, after := #[], guard := none }) (v := ?_) rfl (by kernel_rfl) (by kernel_rfl) (by kernel_rfl) (fun _ _ _ h => h) (Or.inl ⟨by rfl, ?_⟩) (by assumption) ?_
          rotate_left
          · intro w9 hSw
            try dsimp only at hSw
            go_simp
            try with_reducible rfl
          simp only [Act.put, List.setIfInBounds_toArray, List.set_cons_zero, List.set_cons_succ]
          refine wpAnyH_take (i := 10) (oi := { dst := some 47, op := Op.load 25 (Operand.tmp 46), type := 25, pos := _, after := #[{ on := 9, ground := Ground.data }], guard := none }) (v := ?_) rfl (by kernel_rfl) (by kernel_rfl) (by kernel_rfl) (fun _ _ _ h => h) (Or.inl ⟨by rfl, ?_⟩) (by assumption) ?_
          rotate_left
          · intro w9 hSw
            try dsimp only at hSw
            go_simp
            try with_reducible rfl
          simp only [Act.put, List.setIfInBounds_toArray, List.set_cons_zero, List.set_cons_succ]
          refine wpAnyH_take (i := 11) (oi := { dst := some 48, op := Op.move (Operand.tmp 5), type := 3, pos := _, after := #[], guard := none }) (v := ?_) rfl (by kernel_rfl) (by kernel_rfl) (by kernel_rfl) (fun _ _ _ h => h) (Or.inl ⟨by rfl, ?_⟩) (by assumption) ?_
          rotate_left
          · intro w9 hSw
            try dsimp only at hSw
            go_simp
            try with_reducible rfl
          simp only [Act.put, List.setIfInBounds_toArray, List.set_cons_zero, List.set_cons_succ]
          refine wpAnyH_take (i := 12) (oi := { dst := some 49, op := Op.indexAddr 25 (Operand.tmp 47) (Operand.tmp 48), type := 0, pos := _, after := #[{ on := 10, ground := Ground.data }, { on := 11, ground := Ground.data }], guard := none }) (v := ?_) rfl (by kernel_rfl) (by kernel_rfl) (by kernel_rfl) (fun _ _ _ h => h) (Or.inl ⟨by rfl, ?_⟩) (by assumption) ?_
          rotate_left
          · intro w9 hSw
            try dsimp only at hSw
            go_simp
            try with_reducible rfl
          simp only [Act.put, List.setIfInBounds_toArray, List.set_cons_zero, List.set_cons_succ]
          refine wpAnyH_take (i := 13) (oi := { dst := some 50, op := Op.fieldAddr 35 (Operand.tmp 49) 1, type := 0, pos := _, after := #[{ on := 12, ground := Ground.data }], guard := none }) (v := ?_) rfl (by kernel_rfl) (by kernel_rfl) (by kernel_rfl) (fun _ _ _ h => h) (Or.inl ⟨by rfl, ?_⟩) (by assumption) ?_
          rotate_left
          · intro w9 hSw
            try dsimp only at hSw
            go_simp
            try with_reducible rfl
          simp only [Act.put, List.setIfInBounds_toArray, List.set_cons_zero, List.set_cons_succ]
          refine wpAnyH_take (i := 14) (oi := { dst := some 51, op := Op.load 22 (Operand.tmp 50), type := 22, pos := _, after := #[{ on := 13, ground := Ground.data }], guard := none }) (v := ?_) rfl (by kernel_rfl) (by kernel_rfl) (by kernel_rfl) (fun _ _ _ h => h) (Or.inl ⟨by rfl, ?_⟩) (by assumption) ?_
          rotate_left
          · intro w9 hSw
            try dsimp only at hSw
            go_simp
            try with_reducible rfl
          simp only [Act.put, List.setIfInBounds_toArray, List.set_cons_zero, List.set_cons_succ]
          refine wpAnyH_ready (rs := [1, 8]) (by kernel_rfl) (by simp) ?_
          refine AllReadyH.cons rfl (fun K hK => ?_) ?_
          · clear hHeld
            go_simp
            refine hK.out _ _ (KK.out _ Q0.out) (fun hHeld => ?_)
            clear hK K
            refine wpAnyH_ready (rs := [8]) (by kernel_rfl) (by simp) ?_
            refine AllReadyH.cons rfl (fun K hK => ?_) AllReadyH.nil
            clear hHeld
            go_simp
            refine hK.out _ _ (KK.out _ Q1.out) (fun hHeld => ?_)
            clear hK K
            refine wpAnyH_ready (rs := [15]) (by kernel_rfl) (by simp) ?_
            refine AllReadyH.cons rfl (fun K hK => ?_) AllReadyH.nil
            clear hHeld
            refine step_emp rfl (.tmp 45) (.tmp 51) rfl wr.heap.size rfl (heap_alloc_new wr _) y0 n0 e0 a.b rfl (rdB_ok.below HA.out.1 Q1.out.1) HA.out.2.1 ?_
            intro z0 zc wv hN hG
            obtain ⟨G, hE, hGl⟩ := hN
            have D2 : Hd (Below wr.heap.size wr wv) := ⟨below_grows D1.out hG (by simp) (Nat.le_refl _)⟩
            have g1 := cell_below g0 D2.out
            have g2 := cell_below g1 (below_lit wv (.cells #[.int .i64 nn, .slice z0 n0 zc] 35))
            have D3 : Hd (Below wr.heap.size wr (wv.alloc (.cells #[.int .i64 nn, .slice z0 n0 zc] 35))) := ⟨Below.next D2.out (below_lit wv _)⟩
            have Q2 : Hd (Good w #[.slice x0 m0 d0, .slice (some ⟨b1, o1, none⟩) m1 d1, .int .i64 f, .bool b] wv) := ⟨⟨Below.next PP.out.bel D2.out, (D2.out.block _ (lt_of_block PP.out.arg)).trans PP.out.arg⟩⟩
            have Q3 : Hd (Good w #[.slice x0 m0 d0, .slice (some ⟨b1, o1, none⟩) m1 d1, .int .i64 f, .bool b] (wv.alloc (.cells #[.int .i64 nn, .slice z0 n0 zc] 35))) := ⟨Q2.out.alloc _⟩
            have HX : Hd (OwWrS (wv.alloc (.cells #[.int .i64 nn, .slice z0 n0 zc] 35)) [.slice p1 k s1] F1 (cache.take k) ∧ OwWr (wv.alloc (.cells #[.int .i64 nn, .slice z0 n0 zc] 35)) [.int .i64 nn, .slice z0 n0 zc] G a ∧ (∀ x, G x → ¬ F1 x) ∧ (∀ x, G x → wr.heap.size ≤ x)) := ⟨owWrS_ok.below PP.out.r1 D3.out, owWr_ok.below ⟨z0, n0, zc, G, by rw [HA.out.2.2.2.2], hE, fun x => Iff.rfl⟩ (below_lit wv _), fun x hx hy => (by have h7 := hGl x hx; have h8 := owWrS_ok.lt PP.out.r1 x hy; omega), hGl⟩
            clear hE hGl hG
            refine hK.out _ _ (KK.out _ Q2.out) (fun hHeld => ?_)
            clear hK K
            refine wpAnyH_take (i := 16) (oi := { dst := some 53, op := Op.build 35 #[(0, Operand.tmp 44), (1, Operand.tmp 52)], type := 35, pos := _, after := #[{ on := 7, ground := Ground.data }, { on := 15, ground := Ground.data }], guard := none }) (v := ?_) rfl (by kernel_rfl) (by kernel_rfl) (by kernel_rfl) (fun _ _ _ h => h) (Or.inl ⟨by rfl, ?_⟩) (by assumption) ?_
            rotate_left
            · intro w9 hSw
              try dsimp only at hSw
              go_simp
              try with_reducible rfl
            simp only [Act.put, List.setIfInBounds_toArray, List.set_cons_zero, List.set_cons_succ]
            refine wpAnyH_ready (rs := [17]) (by kernel_rfl) (by simp) ?_
            refine AllReadyH.cons rfl (fun K hK => ?_) AllReadyH.nil
            clear hHeld
            go_simp
            refine hK.out _ _ (KK.out _ Q3.out) (fun hHeld => ?_)
            clear hK K
            refine wpAnyH_ready (rs := [18]) (by kernel_rfl) (by simp) ?_
            refine AllReadyH.cons rfl (fun K hK => ?_) AllReadyH.nil
            clear hHeld
            refine step_push rfl owWr_ok (.tmp 38) (.tmp 54) 25 rfl Try.underlying25 hi1 hz1 hs1 hb1 rfl (by omega) (v := .slice p1 k s1) rfl HX.out.1 (q := wv.heap.size) (c' := [.int .i64 nn, .slice z0 n0 zc]) (a' := a) (G := G) rfl (alloc_new wv _ rfl) rfl (by intro u hu; simp only [List.mem_cons, List.not_mem_nil, or_false] at hu; rcases hu with rfl | rfl <;> rfl) HX.out.2.1 HX.out.2.2.1 (by rw [HA.out.2.2.1]; unfold maxLen; omega) (by rw [HA.out.2.2.1]; omega) ?_
            intro v' wz hpush hgrow
            obtain ⟨x2, s2, hv'⟩ : ∃ x2 d2, v' = .slice x2 (k + 1) d2 := by
              obtain ⟨F', hOw, _⟩ := hpush
              obtain ⟨x2, d2, e, _⟩ := owS_slice hOw
              rw [List.length_append, HA.out.2.2.1] at e
              exact ⟨x2, d2, e⟩
            subst hv'
            have HPU : Hd ((∃ F' : Fp, OwWrS wz [.slice x2 (k + 1) s2] F' (cache.take k ++ [a]) ∧ ∀ x, F' x → F1 x ∨ G x ∨ (wv.alloc (.cells #[.int .i64 nn, .slice z0 n0 zc] 35)).heap.size ≤ x) ∧ (wv.alloc (.cells #[.int .i64 nn, .slice z0 n0 zc] 35)).grownBy wz (Value.slice p1 k s1).ownBlock) := ⟨hpush, hgrow⟩
            have Q4 : Hd (Good w #[.slice x0 m0 d0, .slice (some ⟨b1, o1, none⟩) m1 d1, .int .i64 f, .bool b] wz) := ⟨Q3.out.grown hgrow PP.out.own1⟩
            have Q5 : Hd (Good w #[.slice x0 m0 d0, .slice (some ⟨b1, o1, none⟩) m1 d1, .int .i64 f, .bool b] (wz.setCell ⟨q, 1, none⟩ (.slice x2 (k + 1) s2))) := ⟨Q4.out.set (by have := PP.out.q2; omega)⟩
            have t5 := cellsA ((PP.out.below D3.out).boxAt hgrow) 1 rfl
            have f5 := freeA ((PP.out.below D3.out).boxAt hgrow) 1
            clear hpush hgrow
            refine hK.out _ _ (KK.out _ Q4.out) (fun hHeld => ?_)
            clear hK K
            refine wpAnyH_take (i := 19) (oi := { dst := some 56, op := Op.fieldAddr 27 (Operand.tmp 3) 1, type := 0, pos := _, after := #[{ on := 0, ground := Ground.phase }, { on := 1, ground := Ground.phase }, { on := 2, ground := Ground.phase }, { on := 3, ground := Ground.phase }, { on := 4, ground := Ground.phase }, { on := 5, ground := Ground.phase }, { on := 6, ground := Ground.phase }, { on := 7, ground := Ground.phase }, { on := 8, ground := Ground.phase }, { on := 9, ground := Ground.phase }, { on := 10, ground := Ground.phase }, { on := 11, ground := Ground.phase }, { on := 12, ground := Ground.phase }, { on := 13, ground := Ground.phase }, { on := 14, ground := Ground.phase }, { on := 15, ground := Ground.phase }, { on := 16, ground := Ground.phase }, { on := 17, ground := Ground.phase }, { on := 18, ground := Ground.phase }], guard := none }) (v := ?_) rfl (by kernel_rfl) (by kernel_rfl) (by kernel_rfl) (fun _ _ _ h => h) (Or.inl ⟨by rfl, ?_⟩) (by assumption) ?_
            rotate_left
            · intro w9 hSw
              try dsimp only at hSw
              go_simp
              try with_reducible rfl
            simp only [Act.put, List.setIfInBounds_toArray, List.set_cons_zero, List.set_cons_succ]
            refine wpAnyH_ready (rs := [20]) (by kernel_rfl) (by simp) ?_
            refine AllReadyH.cons rfl (fun K hK => ?_) AllReadyH.nil
            clear hHeld
            go_simp
            refine hK.out _ _ (KK.out _ Q5.out) (fun hHeld => ?_)
            clear hK K
            refine wpAnyH_done (by kernel_rfl) ?_ _
            obtain ⟨F', hOw, hF'⟩ := HPU.out.1
            have HZ : Hd (CpAt w #[.slice x0 m0 d0, .slice (some ⟨b1, o1, none⟩) m1 d1, .int .i64 f, .bool b] q ⟨secs, cache.take (k + 1), f, b⟩ (wz.setCell ⟨q, 1, none⟩ (.slice x2 (k + 1) s2))) := ⟨by
              have h7 := ((PP.out.below D3.out).push hOw hF' HX.out.2.2.2 (lt_of_block PP.out.box) (fun x hx => owByteSS_ok.lt PP.out.r0 x hx) HPU.out.2).join
              rw [HA.out.2.2.2.1]; exact h7⟩
            clear HPU HX D1 D2 D3 Q0 Q1 Q2 Q3 Q4 Q5 KK PP HA hOw hF' t5 f5 g0 g0d g0e g1 g2 hi1 hz1 hs1 hb1 t0 t1 c1 hHeld
            go_wp2_with fail
            go_roundw
            case rel => exact ⟨k + 1, by omega, by go_num, HZ⟩
            case measure => simp [intOf]; omega
          refine AllReadyH.cons rfl (fun K hK => ?_) ?_
          · clear hHeld
            go_simp
            refine hK.out _ _ (KK.out _ Q1.out) (fun hHeld => ?_)
            clear hK K
            refine wpAnyH_ready (rs := [1, 15]) (by kernel_rfl) (by simp) ?_
            refine AllReadyH.cons rfl (fun K hK => ?_) ?_
            · clear hHeld
              go_simp
              refine hK.out _ _ (KK.out _ Q1.out) (fun hHeld => ?_)
              clear hK K
              refine wpAnyH_ready (rs := [15]) (by kernel_rfl) (by simp) ?_
              refine AllReadyH.cons rfl (fun K hK => ?_) AllReadyH.nil
              clear hHeld
              refine step_emp rfl (.tmp 45) (.tmp 51) rfl wr.heap.size rfl (heap_alloc_new wr _) y0 n0 e0 a.b rfl (rdB_ok.below HA.out.1 Q1.out.1) HA.out.2.1 ?_
              intro z0 zc wv hN hG
              obtain ⟨G, hE, hGl⟩ := hN
              have D2 : Hd (Below wr.heap.size wr wv) := ⟨below_grows D1.out hG (by simp) (Nat.le_refl _)⟩
              have g1 := cell_below g0 D2.out
              have g2 := cell_below g1 (below_lit wv (.cells #[.int .i64 nn, .slice z0 n0 zc] 35))
              have D3 : Hd (Below wr.heap.size wr (wv.alloc (.cells #[.int .i64 nn, .slice z0 n0 zc] 35))) := ⟨Below.next D2.out (below_lit wv _)⟩
              have Q2 : Hd (Good w #[.slice x0 m0 d0, .slice (some ⟨b1, o1, none⟩) m1 d1, .int .i64 f, .bool b] wv) := ⟨⟨Below.next PP.out.bel D2.out, (D2.out.block _ (lt_of_block PP.out.arg)).trans PP.out.arg⟩⟩
              have Q3 : Hd (Good w #[.slice x0 m0 d0, .slice (some ⟨b1, o1, none⟩) m1 d1, .int .i64 f, .bool b] (wv.alloc (.cells #[.int .i64 nn, .slice z0 n0 zc] 35))) := ⟨Q2.out.alloc _⟩
              have HX : Hd (OwWrS (wv.alloc (.cells #[.int .i64 nn, .slice z0 n0 zc] 35)) [.slice p1 k s1] F1 (cache.take k) ∧ OwWr (wv.alloc (.cells #[.int .i64 nn, .slice z0 n0 zc] 35)) [.int .i64 nn, .slice z0 n0 zc] G a ∧ (∀ x, G x → ¬ F1 x) ∧ (∀ x, G x → wr.heap.size ≤ x)) := ⟨owWrS_ok.below PP.out.r1 D3.out, owWr_ok.below ⟨z0, n0, zc, G, by rw [HA.out.2.2.2.2], hE, fun x => Iff.rfl⟩ (below_lit wv _), fun x hx hy => (by have h7 := hGl x hx; have h8 := owWrS_ok.lt PP.out.r1 x hy; omega), hGl⟩
              clear hE hGl hG
              refine hK.out _ _ (KK.out _ Q2.out) (fun hHeld => ?_)
              clear hK K
              refine wpAnyH_take (i := 16) (oi := { dst := some 53, op := Op.build 35 #[(0, Operand.tmp 44), (1, Operand.tmp 52)], type := 35, pos := _, after := #[{ on := 7, ground := Ground.data }, { on := 15, ground := Ground.data }], guard := none }) (v := ?_) rfl (by kernel_rfl) (by kernel_rfl) (by kernel_rfl) (fun _ _ _ h => h) (Or.inl ⟨by rfl, ?_⟩) (by assumption) ?_
              rotate_left
              · intro w9 hSw
                try dsimp only at hSw
                go_simp
                try with_reducible rfl
              simp only [Act.put, List.setIfInBounds_toArray, List.set_cons_zero, List.set_cons_succ]
              refine wpAnyH_ready (rs := [17]) (by kernel_rfl) (by simp) ?_
              refine AllReadyH.cons rfl (fun K hK => ?_) AllReadyH.nil
              clear hHeld
              go_simp
              refine hK.out _ _ (KK.out _ Q3.out) (fun hHeld => ?_)
              clear hK K
              refine wpAnyH_ready (rs := [18]) (by kernel_rfl) (by simp) ?_
              refine AllReadyH.cons rfl (fun K hK => ?_) AllReadyH.nil
              clear hHeld
              refine step_push rfl owWr_ok (.tmp 38) (.tmp 54) 25 rfl Try.underlying25 hi1 hz1 hs1 hb1 rfl (by omega) (v := .slice p1 k s1) rfl HX.out.1 (q := wv.heap.size) (c' := [.int .i64 nn, .slice z0 n0 zc]) (a' := a) (G := G) rfl (alloc_new wv _ rfl) rfl (by intro u hu; simp only [List.mem_cons, List.not_mem_nil, or_false] at hu; rcases hu with rfl | rfl <;> rfl) HX.out.2.1 HX.out.2.2.1 (by rw [HA.out.2.2.1]; unfold maxLen; omega) (by rw [HA.out.2.2.1]; omega) ?_
              intro v' wz hpush hgrow
              obtain ⟨x2, s2, hv'⟩ : ∃ x2 d2, v' = .slice x2 (k + 1) d2 := by
                obtain ⟨F', hOw, _⟩ := hpush
                obtain ⟨x2, d2, e, _⟩ := owS_slice hOw
                rw [List.length_append, HA.out.2.2.1] at e
                exact ⟨x2, d2, e⟩
              subst hv'
              have HPU : Hd ((∃ F' : Fp, OwWrS wz [.slice x2 (k + 1) s2] F' (cache.take k ++ [a]) ∧ ∀ x, F' x → F1 x ∨ G x ∨ (wv.alloc (.cells #[.int .i64 nn, .slice z0 n0 zc] 35)).heap.size ≤ x) ∧ (wv.alloc (.cells #[.int .i64 nn, .slice z0 n0 zc] 35)).grownBy wz (Value.slice p1 k s1).ownBlock) := ⟨hpush, hgrow⟩
              have Q4 : Hd (Good w #[.slice x0 m0 d0, .slice (some ⟨b1, o1, none⟩) m1 d1, .int .i64 f, .bool b] wz) := ⟨Q3.out.grown hgrow PP.out.own1⟩
              have Q5 : Hd (Good w #[.slice x0 m0 d0, .slice (some ⟨b1, o1, none⟩) m1 d1, .int .i64 f, .bool b] (wz.setCell ⟨q, 1, none⟩ (.slice x2 (k + 1) s2))) := ⟨Q4.out.set (by have := PP.out.q2; omega)⟩
              have t5 := cellsA ((PP.out.below D3.out).boxAt hgrow) 1 rfl
              have f5 := freeA ((PP.out.below D3.out).boxAt hgrow) 1
              clear hpush hgrow
              refine hK.out _ _ (KK.out _ Q4.out) (fun hHeld => ?_)
              clear hK K
              refine wpAnyH_take (i := 19) (oi := { dst := some 56, op := Op.fieldAddr 27 (Operand.tmp 3) 1, type := 0, pos := _, after := #[{ on := 0, ground := Ground.phase }, { on := 1, ground := Ground.phase }, { on := 2, ground := Ground.phase }, { on := 3, ground := Ground.phase }, { on := 4, ground := Ground.phase }, { on := 5, ground := Ground.phase }, { on := 6, ground := Ground.phase }, { on := 7, ground := Ground.phase }, { on := 8, ground := Ground.phase }, { on := 9, ground := Ground.phase }, { on := 10, ground := Ground.phase }, { on := 11, ground := Ground.phase }, { on := 12, ground := Ground.phase }, { on := 13, ground := Ground.phase }, { on := 14, ground := Ground.phase }, { on := 15, ground := Ground.phase }, { on := 16, ground := Ground.phase }, { on := 17, ground := Ground.phase }, { on := 18, ground := Ground.phase }], guard := none }) (v := ?_) rfl (by kernel_rfl) (by kernel_rfl) (by kernel_rfl) (fun _ _ _ h => h) (Or.inl ⟨by rfl, ?_⟩) (by assumption) ?_
              rotate_left
              · intro w9 hSw
                try dsimp only at hSw
                go_simp
                try with_reducible rfl
              simp only [Act.put, List.setIfInBounds_toArray, List.set_cons_zero, List.set_cons_succ]
              refine wpAnyH_ready (rs := [20]) (by kernel_rfl) (by simp) ?_
              refine AllReadyH.cons rfl (fun K hK => ?_) AllReadyH.nil
              clear hHeld
              go_simp
              refine hK.out _ _ (KK.out _ Q5.out) (fun hHeld => ?_)
              clear hK K
              refine wpAnyH_done (by kernel_rfl) ?_ _
              obtain ⟨F', hOw, hF'⟩ := HPU.out.1
              have HZ : Hd (CpAt w #[.slice x0 m0 d0, .slice (some ⟨b1, o1, none⟩) m1 d1, .int .i64 f, .bool b] q ⟨secs, cache.take (k + 1), f, b⟩ (wz.setCell ⟨q, 1, none⟩ (.slice x2 (k + 1) s2))) := ⟨by
                have h7 := ((PP.out.below D3.out).push hOw hF' HX.out.2.2.2 (lt_of_block PP.out.box) (fun x hx => owByteSS_ok.lt PP.out.r0 x hx) HPU.out.2).join
                rw [HA.out.2.2.2.1]; exact h7⟩
              clear HPU HX D1 D2 D3 Q0 Q1 Q2 Q3 Q4 Q5 KK PP HA hOw hF' t5 f5 g0 g0d g0e g1 g2 hi1 hz1 hs1 hb1 t0 t1 c1 hHeld
              go_wp2_with fail
              go_roundw
              case rel => exact ⟨k + 1, by omega, by go_num, HZ⟩
              case measure => simp [intOf]; omega
            refine AllReadyH.cons rfl (fun K hK => ?_) ?_
            · clear hHeld
              refine step_emp rfl (.tmp 45) (.tmp 51) rfl wr.heap.size rfl (heap_alloc_new wr _) y0 n0 e0 a.b rfl (rdB_ok.below HA.out.1 Q1.out.1) HA.out.2.1 ?_
              intro z0 zc wv hN hG
              obtain ⟨G, hE, hGl⟩ := hN
              have D2 : Hd (Below wr.heap.size wr wv) := ⟨below_grows D1.out hG (by simp) (Nat.le_refl _)⟩
              have g1 := cell_below g0 D2.out
              have g2 := cell_below g1 (below_lit wv (.cells #[.int .i64 nn, .slice z0 n0 zc] 35))
              have D3 : Hd (Below wr.heap.size wr (wv.alloc (.cells #[.int .i64 nn, .slice z0 n0 zc] 35))) := ⟨Below.next D2.out (below_lit wv _)⟩
              have Q2 : Hd (Good w #[.slice x0 m0 d0, .slice (some ⟨b1, o1, none⟩) m1 d1, .int .i64 f, .bool b] wv) := ⟨⟨Below.next PP.out.bel D2.out, (D2.out.block _ (lt_of_block PP.out.arg)).trans PP.out.arg⟩⟩
              have Q3 : Hd (Good w #[.slice x0 m0 d0, .slice (some ⟨b1, o1, none⟩) m1 d1, .int .i64 f, .bool b] (wv.alloc (.cells #[.int .i64 nn, .slice z0 n0 zc] 35))) := ⟨Q2.out.alloc _⟩
              have HX : Hd (OwWrS (wv.alloc (.cells #[.int .i64 nn, .slice z0 n0 zc] 35)) [.slice p1 k s1] F1 (cache.take k) ∧ OwWr (wv.alloc (.cells #[.int .i64 nn, .slice z0 n0 zc] 35)) [.int .i64 nn, .slice z0 n0 zc] G a ∧ (∀ x, G x → ¬ F1 x) ∧ (∀ x, G x → wr.heap.size ≤ x)) := ⟨owWrS_ok.below PP.out.r1 D3.out, owWr_ok.below ⟨z0, n0, zc, G, by rw [HA.out.2.2.2.2], hE, fun x => Iff.rfl⟩ (below_lit wv _), fun x hx hy => (by have h7 := hGl x hx; have h8 := owWrS_ok.lt PP.out.r1 x hy; omega), hGl⟩
              clear hE hGl hG
              refine hK.out _ _ (KK.out _ Q2.out) (fun hHeld => ?_)
              clear hK K
              refine wpAnyH_take (i := 16) (oi := { dst := some 53, op := Op.build 35 #[(0, Operand.tmp 44), (1, Operand.tmp 52)], type := 35, pos := _, after := #[{ on := 7, ground := Ground.data }, { on := 15, ground := Ground.data }], guard := none }) (v := ?_) rfl (by kernel_rfl) (by kernel_rfl) (by kernel_rfl) (fun _ _ _ h => h) (Or.inl ⟨by rfl, ?_⟩) (by assumption) ?_
              rotate_left
              · intro w9 hSw
                try dsimp only at hSw
                go_simp
                try with_reducible rfl
              simp only [Act.put, List.setIfInBounds_toArray, List.set_cons_zero, List.set_cons_succ]
              refine wpAnyH_ready (rs := [1, 17]) (by kernel_rfl) (by simp) ?_
              refine AllReadyH.cons rfl (fun K hK => ?_) ?_
              · clear hHeld
                go_simp
                refine hK.out _ _ (KK.out _ Q2.out) (fun hHeld => ?_)
                clear hK K
                refine wpAnyH_ready (rs := [17]) (by kernel_rfl) (by simp) ?_
                refine AllReadyH.cons rfl (fun K hK => ?_) AllReadyH.nil
                clear hHeld
                go_simp
                refine hK.out _ _ (KK.out _ Q3.out) (fun hHeld => ?_)
                clear hK K
                refine wpAnyH_ready (rs := [18]) (by kernel_rfl) (by simp) ?_
                refine AllReadyH.cons rfl (fun K hK => ?_) AllReadyH.nil
                clear hHeld
                refine step_push rfl owWr_ok (.tmp 38) (.tmp 54) 25 rfl Try.underlying25 hi1 hz1 hs1 hb1 rfl (by omega) (v := .slice p1 k s1) rfl HX.out.1 (q := wv.heap.size) (c' := [.int .i64 nn, .slice z0 n0 zc]) (a' := a) (G := G) rfl (alloc_new wv _ rfl) rfl (by intro u hu; simp only [List.mem_cons, List.not_mem_nil, or_false] at hu; rcases hu with rfl | rfl <;> rfl) HX.out.2.1 HX.out.2.2.1 (by rw [HA.out.2.2.1]; unfold maxLen; omega) (by rw [HA.out.2.2.1]; omega) ?_
                intro v' wz hpush hgrow
                obtain ⟨x2, s2, hv'⟩ : ∃ x2 d2, v' = .slice x2 (k + 1) d2 := by
                  obtain ⟨F', hOw, _⟩ := hpush
                  obtain ⟨x2, d2, e, _⟩ := owS_slice hOw
                  rw [List.length_append, HA.out.2.2.1] at e
                  exact ⟨x2, d2, e⟩
                subst hv'
                have HPU : Hd ((∃ F' : Fp, OwWrS wz [.slice x2 (k + 1) s2] F' (cache.take k ++ [a]) ∧ ∀ x, F' x → F1 x ∨ G x ∨ (wv.alloc (.cells #[.int .i64 nn, .slice z0 n0 zc] 35)).heap.size ≤ x) ∧ (wv.alloc (.cells #[.int .i64 nn, .slice z0 n0 zc] 35)).grownBy wz (Value.slice p1 k s1).ownBlock) := ⟨hpush, hgrow⟩
                have Q4 : Hd (Good w #[.slice x0 m0 d0, .slice (some ⟨b1, o1, none⟩) m1 d1, .int .i64 f, .bool b] wz) := ⟨Q3.out.grown hgrow PP.out.own1⟩
                have Q5 : Hd (Good w #[.slice x0 m0 d0, .slice (some ⟨b1, o1, none⟩) m1 d1, .int .i64 f, .bool b] (wz.setCell ⟨q, 1, none⟩ (.slice x2 (k + 1) s2))) := ⟨Q4.out.set (by have := PP.out.q2; omega)⟩
                have t5 := cellsA ((PP.out.below D3.out).boxAt hgrow) 1 rfl
                have f5 := freeA ((PP.out.below D3.out).boxAt hgrow) 1
                clear hpush hgrow
                refine hK.out _ _ (KK.out _ Q4.out) (fun hHeld => ?_)
                clear hK K
                refine wpAnyH_take (i := 19) (oi := { dst := some 56, op := Op.fieldAddr 27 (Operand.tmp 3) 1, type := 0, pos := _, after := #[{ on := 0, ground := Ground.phase }, { on := 1, ground := Ground.phase }, { on := 2, ground := Ground.phase }, { on := 3, ground := Ground.phase }, { on := 4, ground := Ground.phase }, { on := 5, ground := Ground.phase }, { on := 6, ground := Ground.phase }, { on := 7, ground := Ground.phase }, { on := 8, ground := Ground.phase }, { on := 9, ground := Ground.phase }, { on := 10, ground := Ground.phase }, { on := 11, ground := Ground.phase }, { on := 12, ground := Ground.phase }, { on := 13, ground := Ground.phase }, { on := 14, ground := Ground.phase }, { on := 15, ground := Ground.phase }, { on := 16, ground := Ground.phase }, { on := 17, ground := Ground.phase }, { on := 18, ground := Ground.phase }], guard := none }) (v := ?_) rfl (by kernel_rfl) (by kernel_rfl) (by kernel_rfl) (fun _ _ _ h => h) (Or.inl ⟨by rfl, ?_⟩) (by assumption) ?_
                rotate_left
                · intro w9 hSw
                  try dsimp only at hSw
                  go_simp
                  try with_reducible rfl
                simp only [Act.put, List.setIfInBounds_toArray, List.set_cons_zero, List.set_cons_succ]
                refine wpAnyH_ready (rs := [20]) (by kernel_rfl) (by simp) ?_
                refine AllReadyH.cons rfl (fun K hK => ?_) AllReadyH.nil
                clear hHeld
                go_simp
                refine hK.out _ _ (KK.out _ Q5.out) (fun hHeld => ?_)
                clear hK K
                refine wpAnyH_done (by kernel_rfl) ?_ _
                obtain ⟨F', hOw, hF'⟩ := HPU.out.1
                have HZ : Hd (CpAt w #[.slice x0 m0 d0, .slice (some ⟨b1, o1, none⟩) m1 d1, .int .i64 f, .bool b] q ⟨secs, cache.take (k + 1), f, b⟩ (wz.setCell ⟨q, 1, none⟩ (.slice x2 (k + 1) s2))) := ⟨by
                  have h7 := ((PP.out.below D3.out).push hOw hF' HX.out.2.2.2 (lt_of_block PP.out.box) (fun x hx => owByteSS_ok.lt PP.out.r0 x hx) HPU.out.2).join
                  rw [HA.out.2.2.2.1]; exact h7⟩
                clear HPU HX D1 D2 D3 Q0 Q1 Q2 Q3 Q4 Q5 KK PP HA hOw hF' t5 f5 g0 g0d g0e g1 g2 hi1 hz1 hs1 hb1 t0 t1 c1 hHeld
                go_wp2_with fail
                go_roundw
                case rel => exact ⟨k + 1, by omega, by go_num, HZ⟩
                case measure => simp [intOf]; omega
              refine AllReadyH.cons rfl (fun K hK => ?_) ?_
              · clear hHeld
                go_simp
                refine hK.out _ _ (KK.out _ Q3.out) (fun hHeld => ?_)
                clear hK K
                refine wpAnyH_ready (rs := [1]) (by kernel_rfl) (by simp) ?_
                refine AllReadyH.cons rfl (fun K hK => ?_) AllReadyH.nil
                clear hHeld
                go_simp
                refine hK.out _ _ (KK.out _ Q3.out) (fun hHeld => ?_)
                clear hK K
                refine wpAnyH_ready (rs := [18]) (by kernel_rfl) (by simp) ?_
                refine AllReadyH.cons rfl (fun K hK => ?_) AllReadyH.nil
                clear hHeld
                refine step_push rfl owWr_ok (.tmp 38) (.tmp 54) 25 rfl Try.underlying25 hi1 hz1 hs1 hb1 rfl (by omega) (v := .slice p1 k s1) rfl HX.out.1 (q := wv.heap.size) (c' := [.int .i64 nn, .slice z0 n0 zc]) (a' := a) (G := G) rfl (alloc_new wv _ rfl) rfl (by intro u hu; simp only [List.mem_cons, List.not_mem_nil, or_false] at hu; rcases hu with rfl | rfl <;> rfl) HX.out.2.1 HX.out.2.2.1 (by rw [HA.out.2.2.1]; unfold maxLen; omega) (by rw [HA.out.2.2.1]; omega) ?_
                intro v' wz hpush hgrow
                obtain ⟨x2, s2, hv'⟩ : ∃ x2 d2, v' = .slice x2 (k + 1) d2 := by
                  obtain ⟨F', hOw, _⟩ := hpush
                  obtain ⟨x2, d2, e, _⟩ := owS_slice hOw
                  rw [List.length_append, HA.out.2.2.1] at e
                  exact ⟨x2, d2, e⟩
                subst hv'
                have HPU : Hd ((∃ F' : Fp, OwWrS wz [.slice x2 (k + 1) s2] F' (cache.take k ++ [a]) ∧ ∀ x, F' x → F1 x ∨ G x ∨ (wv.alloc (.cells #[.int .i64 nn, .slice z0 n0 zc] 35)).heap.size ≤ x) ∧ (wv.alloc (.cells #[.int .i64 nn, .slice z0 n0 zc] 35)).grownBy wz (Value.slice p1 k s1).ownBlock) := ⟨hpush, hgrow⟩
                have Q4 : Hd (Good w #[.slice x0 m0 d0, .slice (some ⟨b1, o1, none⟩) m1 d1, .int .i64 f, .bool b] wz) := ⟨Q3.out.grown hgrow PP.out.own1⟩
                have Q5 : Hd (Good w #[.slice x0 m0 d0, .slice (some ⟨b1, o1, none⟩) m1 d1, .int .i64 f, .bool b] (wz.setCell ⟨q, 1, none⟩ (.slice x2 (k + 1) s2))) := ⟨Q4.out.set (by have := PP.out.q2; omega)⟩
                have t5 := cellsA ((PP.out.below D3.out).boxAt hgrow) 1 rfl
                have f5 := freeA ((PP.out.below D3.out).boxAt hgrow) 1
                clear hpush hgrow
                refine hK.out _ _ (KK.out _ Q4.out) (fun hHeld => ?_)
                clear hK K
                refine wpAnyH_take (i := 19) (oi := { dst := some 56, op := Op.fieldAddr 27 (Operand.tmp 3) 1, type := 0, pos := _, after := #[{ on := 0, ground := Ground.phase }, { on := 1, ground := Ground.phase }, { on := 2, ground := Ground.phase }, { on := 3, ground := Ground.phase }, { on := 4, ground := Ground.phase }, { on := 5, ground := Ground.phase }, { on := 6, ground := Ground.phase }, { on := 7, ground := Ground.phase }, { on := 8, ground := Ground.phase }, { on := 9, ground := Ground.phase }, { on := 10, ground := Ground.phase }, { on := 11, ground := Ground.phase }, { on := 12, ground := Ground.phase }, { on := 13, ground := Ground.phase }, { on := 14, ground := Ground.phase }, { on := 15, ground := Ground.phase }, { on := 16, ground := Ground.phase }, { on := 17, ground := Ground.phase }, { on := 18, ground := Ground.phase }], guard := none }) (v := ?_) rfl (by kernel_rfl) (by kernel_rfl) (by kernel_rfl) (fun _ _ _ h => h) (Or.inl ⟨by rfl, ?_⟩) (by assumption) ?_
                rotate_left
                · intro w9 hSw
                  try dsimp only at hSw
                  go_simp
                  try with_reducible rfl
                simp only [Act.put, List.setIfInBounds_toArray, List.set_cons_zero, List.set_cons_succ]
                refine wpAnyH_ready (rs := [20]) (by kernel_rfl) (by simp) ?_
                refine AllReadyH.cons rfl (fun K hK => ?_) AllReadyH.nil
                clear hHeld
                go_simp
                refine hK.out _ _ (KK.out _ Q5.out) (fun hHeld => ?_)
                clear hK K
                refine wpAnyH_done (by kernel_rfl) ?_ _
                obtain ⟨F', hOw, hF'⟩ := HPU.out.1
                have HZ : Hd (CpAt w #[.slice x0 m0 d0, .slice (some ⟨b1, o1, none⟩) m1 d1, .int .i64 f, .bool b] q ⟨secs, cache.take (k + 1), f, b⟩ (wz.setCell ⟨q, 1, none⟩ (.slice x2 (k + 1) s2))) := ⟨by
                  have h7 := ((PP.out.below D3.out).push hOw hF' HX.out.2.2.2 (lt_of_block PP.out.box) (fun x hx => owByteSS_ok.lt PP.out.r0 x hx) HPU.out.2).join
                  rw [HA.out.2.2.2.1]; exact h7⟩
                clear HPU HX D1 D2 D3 Q0 Q1 Q2 Q3 Q4 Q5 KK PP HA hOw hF' t5 f5 g0 g0d g0e g1 g2 hi1 hz1 hs1 hb1 t0 t1 c1 hHeld
                go_wp2_with fail
                go_roundw
                case rel => exact ⟨k + 1, by omega, by go_num, HZ⟩
                case measure => simp [intOf]; omega
              exact AllReadyH.nil
            exact AllReadyH.nil
          exact AllReadyH.nil
        · have HC2 : Hd (CpAt w #[.slice x0 m0 d0, .slice x1 m1 d1, .int .i64 f, .bool b] q ⟨secs, cache, f, b⟩ wr) := ⟨by
            have h7 := HK.out
            rw [List.take_of_length_le (by have := HL.out.2; omega)] at h7
            exact h7⟩
          clear HK
          obtain ⟨p0, l0, s0, p1, l1, s1, F0, F1, hP⟩ := HC2.out.split
          have HB : Hd (wr.heap[q]? = some (.cells #[.slice p0 l0 s0, .slice p1 l1 s1, .int .i64 f, .bool b] 27 (0, 0))) := ⟨hP.box⟩
          clear hP
          have b0 := cellsA HB.out 0 rfl
          have b1 := cellsA HB.out 1 rfl
          have b2 := cellsA HB.out 2 rfl
          have b3 := cellsA HB.out 3 rfl
          have z0 := cellsA HC2.out.res 0 rfl
          have z1 := cellsA HC2.out.res 1 rfl
          have z2 := cellsA HC2.out.res 2 rfl
          have z3 := cellsA HC2.out.res 3 rfl
          have r0 := freeA HC2.out.res 0
          have r1 := freeA HC2.out.res 1
          have r2 := freeA HC2.out.res 2
          have r3 := freeA HC2.out.res 3
          go_wp2_with fail
          refine bodyPost_ret (results_cell_row rfl _ _ (w.heap.size + 1) _ _ (0, 0) _ rfl (HC2.out.resAt _ _ _ _) Try.underlying27 rfl (by kernel_rfl)) rfl ?_
          exact HC2.out.ret HB.out

end Go.Proofs.Ytidbhdlhcmjhkaa
