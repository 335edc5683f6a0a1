/- The specification: one more operation; a write. -/
import Derived.Test.YtidbhdlhcmjhkaaDevCp
namespace Go.Proofs.Ytidbhdlhcmjhkaa
set_option maxRecDepth 4000
open Go.RowKit

/-- A device in a box was changed. -/
structure BxOut (q : Nat) (F : Fp) (d : DevD) (w w' : World) : Prop where
  box : ∃ F' : Fp, BoxDev w' q F' d ∧ ∀ x, F' x → F x ∨ w.heap.size ≤ x
  chg : Chg w w' (fun x => x = q ∨ F x)

set_option maxHeartbeats 1000000 in
theorem specL10Op_any (q : Nat) (s0 s1 : Value) (f : Int) (b : Bool) (w : World) (hq : w.heap[q]? = some (.cells #[s0, s1, .int .i64 f, .bool b] 27 (0, 0))) (hf : Hd (-1 ≤ f ∧ f ≤ 1000)) :
    Calls Try.prog 47 #[.pointer (some ⟨q, 0, none⟩)] w fun e w' => e = .returned (.bool (opOn f)) ∧ Chg w w' (fun x => x = q) ∧ w'.heap[q]? = some (.cells #[s0, s1, .int .i64 (opFuse f), .bool (opDown f b)] 27 (0, 0)) := by
  have HQ : Hd (w.heap[q]? = some (.cells #[s0, s1, .int .i64 f, .bool b] 27 (0, 0))) := ⟨hq⟩
  have c2 := cellsA hq 2 rfl
  have c3 := cellsA hq 3 rfl
  have k2 := freeA hq 2
  have k3 := freeA hq 3
  clear hq
  by_cases h0 : f = 0
  · subst h0
    have e1 : opFuse 0 = -1 := rfl
    have e2 : opDown 0 b = true := rfl
    have e3 : opOn 0 = false := rfl
    rw [e1, e2, e3]
    clear e1 e2 e3 hf
    go_enter Try.func47, Try.ntmps47
    go_wp2_with fail
    go_ret
    exact ⟨rfl, ((Chg.refl w (fun x => x = q)).setCell rfl _).setCell rfl _, setA (setA HQ.out 3 _ rfl) 2 _ rfl⟩
  · have e2 : opDown f b = b := if_neg h0
    have e3 : opOn f = true := by simp [opOn, h0]
    have h0' : (f == 0) = false := by simpa using h0
    by_cases h1 : 0 < f
    · have e1 : opFuse f = f - 1 := by unfold opFuse fuseDown; rw [if_neg h0, if_pos h1]
      rw [e1, e2, e3]
      have hw : wrap64 (f - 1) = f - 1 := by have := hf.out; exact wrap64_in (by omega) (by omega)
      clear e1 e2 e3 hf
      go_enter Try.func47, Try.ntmps47
      go_wp2_with fail
      go_ret
      exact ⟨rfl, (Chg.refl w (fun x => x = q)).setCell rfl _, setA HQ.out 2 _ rfl⟩
    · have e1 : opFuse f = f := by unfold opFuse fuseDown; rw [if_neg h0, if_neg h1]
      rw [e1, e2, e3]
      clear e1 e2 e3 hf
      go_enter Try.func47, Try.ntmps47
      go_wp2_with fail
      go_ret
      exact ⟨rfl, Chg.refl w _, HQ.out⟩

theorem BoxDev.op {w w' : World} {q : Nat} {F : Fp} {d : DevD} (h : BoxDev w q F d) {v0 v1 v2 v3 : Value} (hq : w.heap[q]? = some (.cells #[v0, v1, v2, v3] 27 (0, 0))) (hc : Chg w w' (fun x => x = q)) {f : Int} {b : Bool} (hq' : w'.heap[q]? = some (.cells #[v0, v1, .int .i64 f, .bool b] 27 (0, 0))) :
    BoxDev w' q F { d with fuse := f, down := b } := by
  obtain ⟨x0, m0, d0, x1, m1, d1, F0, F1, hp, r0, r1, k1, k2, hn⟩ := h.parts
  rw [hq] at hp
  simp only [Option.some.injEq, Obj.cells.injEq, Array.mk.injEq, List.cons.injEq, and_true] at hp
  obtain ⟨rfl, rfl, rfl, rfl⟩ := hp
  have hne : ∀ x, F x → ¬ x = q := fun x hx e => hn (by rw [← e]; exact hx)
  exact boxDev_of hq' (owByteSS_ok.chg r0 hc (fun x hx => hne x ((k2 x).2 (.inl hx)))) (owWrS_ok.chg r1 hc (fun x hx => hne x ((k2 x).2 (.inr hx)))) k1 k2 hn

theorem BoxDev.push {wx w' : World} {q : Nat} {d : DevD} {x0 x1 : Option Addr} {m0 d0 m1 d1 : Nat} {F F0 F1 F' G : Fp} (hq : wx.heap[q]? = some (.cells #[.slice x0 m0 d0, .slice x1 m1 d1, .int .i64 d.fuse, .bool d.down] 27 (0, 0)))
    (r0 : OwByteSS wx [.slice x0 m0 d0] F0 d.secs) (r1 : OwWrS wx [.slice x1 m1 d1] F1 d.cache) (k1 : ∀ x, F0 x → ¬ F1 x) (k2 : ∀ x, F x ↔ F0 x ∨ F1 x) (hn : ¬ F q) {x2 : Option Addr} {m2 d2 B : Nat} {c' : List WrD}
    (hp : OwWrS w' [.slice x2 m2 d2] F' c') (hF' : ∀ x, F' x → F1 x ∨ G x ∨ wx.heap.size ≤ x) (hG : ∀ x, G x → B ≤ x) (hqB : q < B) (hFB : ∀ x, F x → x < B) (hg : wx.grownBy w' (Value.slice x1 m1 d1).ownBlock) :
    BoxDev (w'.setCell ⟨q, 1, none⟩ (.slice x2 m2 d2)) q (fun x => F0 x ∨ F' x) { d with cache := c' } ∧ Chg wx (w'.setCell ⟨q, 1, none⟩ (.slice x2 m2 d2)) (fun x => x = q ∨ F x) := by
  have hown : ∀ k, (Value.slice x1 m1 d1).ownBlock = some k → F1 k := by
    intro k hk
    obtain ⟨v, css, Fs, e, P⟩ := r1
    simp only [List.cons.injEq, and_true] at e
    subst e
    exact P.blk k hk
  have ho2 : ∀ k, k < wx.heap.size → ¬ F1 k → w'.heap[k]? = wx.heap[k]? := fun k hk hn => hg.block k hk (fun e => hn (hown k e.symm))
  have hq0 := lt_of_block hq
  have hbx := (ho2 q hq0 (fun hx => hn ((k2 q).2 (.inr hx)))).trans hq
  have hne' : ∀ x, F' x → x ≠ q := by
    intro x hx e
    rcases hF' x hx with hx | hx | hx
    · exact hn ((k2 q).2 (.inr (by rw [← e]; exact hx)))
    · have := hG x hx; omega
    · omega
  have hne0 : ∀ x, F0 x → x ≠ q := fun x hx e => hn ((k2 q).2 (.inl (by rw [← e]; exact hx)))
  refine ⟨boxDev_of (setA hbx 1 _ rfl) (owByteSS_ok.keep r0 (fun x hx => block_set (ho2 x (owByteSS_ok.lt r0 x hx) (k1 x hx)) (hne0 x hx))) (owWrS_ok.keep hp (fun x hx => block_set rfl (hne' x hx))) (fun x hx hy => ?_) (fun x => Iff.rfl) (fun hx => hx.elim (fun hx => hne0 q hx rfl) (fun hx => hne' q hx rfl)), ?_⟩
  · rcases hF' x hy with hy | hy | hy
    · exact k1 x hx hy
    · have := hG x hy; have := hFB x ((k2 x).2 (.inl hx)); omega
    · have := owByteSS_ok.lt r0 x hx; omega
  · exact (Chg.of_grown hg (F := fun x => x = q ∨ F x) (fun k hk => .inr ((k2 k).2 (.inr (hown k hk))))).setCell (.inl rfl) _
theorem box_grown {wx w' : World} {q : Nat} {cs : Array Value} {x1 : Option Addr} {m1 d1 : Nat} {F1 : Fp} {ls : List WrD} (hq : wx.heap[q]? = some (.cells cs 27 (0, 0))) (r1 : OwWrS wx [.slice x1 m1 d1] F1 ls) (hn : ¬ F1 q) (hg : wx.grownBy w' (Value.slice x1 m1 d1).ownBlock) : w'.heap[q]? = some (.cells cs 27 (0, 0)) := by
  obtain ⟨v, css, Fs, e, P⟩ := r1
  simp only [List.cons.injEq, and_true] at e
  subst e
  rw [hg.block q (lt_of_block hq) (fun e => hn (P.blk q e.symm))]
  exact hq

set_option linter.unusedSimpArgs false in
set_option maxHeartbeats 4000000 in
theorem specL10Write_rd (q : Nat) (F : Fp) (d : DevD) (n : Int) (ao : Option Addr) (bl bc : Nat) (bs : List UInt8) (w : World) (h : BoxDev w q F d) (hok : devOk d = true) (hbl : bs.length = bl) (hb : Hd (∀ w', Chg w w' (fun x => x = q) → RdB w' [.slice ao bl bc] bs)) :
    Calls Try.prog 44 #[.pointer (some ⟨q, 0, none⟩), .int .i64 n, .slice ao bl bc] w fun e w' => e = .returned (.tuple #[]) ∧ BxOut q F (writeD d n bs) w w' := by
  obtain ⟨x0, m0, d0, x1, m1, d1, F0, F1, hq, r0, r1, k1, k2, hn⟩ := h.parts
  obtain ⟨f, hf⟩ : ∃ f, d.fuse = f := ⟨_, rfl⟩
  obtain ⟨b, hbb⟩ : ∃ b, d.down = b := ⟨_, rfl⟩
  rw [hf, hbb] at hq
  have HQ : Hd (BoxDev w q F d ∧ w.heap[q]? = some (.cells #[.slice x0 m0 d0, .slice x1 m1 d1, .int .i64 f, .bool b] 27 (0, 0))) := ⟨h, hq⟩
  have hm0 : d.secs.length = m0 := by obtain ⟨_, _, e, _⟩ := owS_slice r0; simp only [Value.slice.injEq] at e; exact e.2.1.symm
  have hm1 : d.cache.length = m1 := by obtain ⟨_, _, e, _⟩ := owS_slice r1; simp only [Value.slice.injEq] at e; exact e.2.1.symm
  obtain ⟨_, _, a3, a4, a5, a6⟩ := devOk_parts hok
  rw [hm0] at a3
  rw [hm1] at a4
  rw [hf] at a5 a6
  have hwr : wrap64 ((m0 : Int) - 1) = (m0 : Int) - 1 := wrap64_in (by omega) (by omega)
  have HF : Hd (-1 ≤ f ∧ f ≤ 1000) := ⟨a5, a6⟩
  have HW : Hd (writeOn d n bs = (!b && inB n 0 ((m0 : Int) - 1) && decide (bl ≤ 120) && decide (m1 < 40)) ∧ d.fuse = f ∧ d.down = b ∧ d.cache.length = m1) := ⟨by unfold writeOn inSecs; rw [hok, hbb, hm0, hm1, hbl, inB_is]; simp, hf, hbb, hm1⟩
  have HS : Hd (writeOn d n bs = false → writeD d n bs = d) := ⟨fun e => by unfold writeD; rw [if_pos e]⟩
  have HT : Hd (writeOn d n bs = true → writeD d n bs = if opOn d.fuse = true then { d with fuse := opFuse d.fuse, down := opDown d.fuse d.down, cache := d.cache ++ [⟨n, bs⟩] } else { d with fuse := opFuse d.fuse, down := opDown d.fuse d.down }) := ⟨opWrite d n bs⟩
  have HBL : Hd (bs.length = bl) := ⟨hbl⟩
  obtain ⟨R, hR⟩ : ∃ R, writeD d n bs = R := ⟨_, rfl⟩
  rw [hR] at HS HT ⊢
  have SAME : Hd (writeOn d n bs = false → BxOut q F R w w) := ⟨fun e => by rw [HS.out e]; exact ⟨⟨F, HQ.out.1, fun x hx => .inl hx⟩, Chg.refl w _⟩⟩
  clear hR r0 r1 k1 k2 hn h hf hbb hok hm0 hm1 hbl HS a5 a6
  have c0 := cellsA hq 0 rfl
  have c1 := cellsA hq 1 rfl
  have c3 := cellsA hq 3 rfl
  clear hq
  cases b with
  | true =>
    have E := SAME.out (by rw [HW.out.1]; rfl)
    have E2 : Hd (BxOut q F R w w) := ⟨E⟩
    clear E HT HW SAME HQ hb
    go_enter Try.func44, Try.ntmps44
    go_wp2_with fail
    refine bodyPost_ret (results_none rfl _ _ _) rfl ?_
    exact ⟨rfl, E2.out⟩
  | false =>
    obtain ⟨V, hV⟩ : ∃ V, inB n 0 ((m0 : Int) - 1) = V := ⟨_, rfl⟩
    have HV : Hd (inB n 0 ((m0 : Int) - 1) = V) := ⟨hV⟩
    rw [hV] at HW
    clear hV
    go_enter Try.func44, Try.ntmps44
    go_wp2_with fail
    refine (l1In_is HV.out _).mono ?_
    rintro e w' ⟨rfl, hw⟩
    replace hw := hw.symm
    subst hw
    cases V with
    | false =>
      have E2 : Hd (BxOut q F R w w) := ⟨SAME.out (by rw [HW.out.1]; rfl)⟩
      clear HT HW SAME HQ hb
      go_wp2_with fail
      refine bodyPost_ret (results_none rfl _ _ _) rfl ?_
      exact ⟨rfl, E2.out⟩
    | true =>
      by_cases hs : (bl : Int) > 120
      · have hs' : decide ((bl : Int) > 120) = true := decide_eq_true hs
        have E2 : Hd (BxOut q F R w w) := ⟨SAME.out (by rw [HW.out.1, decide_eq_false (by omega : ¬ bl ≤ 120)]; rfl)⟩
        clear HT HW SAME HQ hb
        go_wp2_with fail
        refine bodyPost_ret (results_none rfl _ _ _) rfl ?_
        exact ⟨rfl, E2.out⟩
      have hs' : decide ((bl : Int) > 120) = false := decide_eq_false hs
      by_cases hm : (m1 : Int) ≥ 40
      · have hm' : decide ((m1 : Int) ≥ 40) = true := decide_eq_true hm
        have E2 : Hd (BxOut q F R w w) := ⟨SAME.out (by rw [HW.out.1, decide_eq_false (by omega : ¬ m1 < 40)]; simp)⟩
        clear HT HW SAME HQ hb
        go_wp2_with fail
        refine bodyPost_ret (results_none rfl _ _ _) rfl ?_
        exact ⟨rfl, E2.out⟩
      have hm' : decide ((m1 : Int) ≥ 40) = false := decide_eq_false hm
      have HON := HT.out (by rw [HW.out.1, decide_eq_true (by omega : bl ≤ 120), decide_eq_true (by omega : m1 < 40)]; rfl)
      rw [HW.out.2.1, HW.out.2.2.1] at HON
      have HE : Hd (R = if opOn f = true then { d with fuse := opFuse f, down := opDown f false, cache := d.cache ++ [⟨n, bs⟩] } else { d with fuse := opFuse f, down := opDown f false }) := ⟨HON⟩
      clear HON HT SAME
      go_wp2_with fail
      refine (specL10Op_any q _ _ f false _ HQ.out.2 HF).mono ?_
      rintro e W4 ⟨rfl, hC, hq4⟩
      obtain ⟨f2, hf2⟩ : ∃ f2, opFuse f = f2 := ⟨_, rfl⟩
      obtain ⟨b2, hb2⟩ : ∃ b2, opDown f false = b2 := ⟨_, rfl⟩
      obtain ⟨O, hO⟩ : ∃ O, opOn f = O := ⟨_, rfl⟩
      rw [hf2, hb2] at hq4 HE
      rw [hO] at HE ⊢
      have P4 : Hd (BoxDev W4 q F { d with fuse := f2, down := b2 } ∧ W4.heap[q]? = some (.cells #[.slice x0 m0 d0, .slice x1 m1 d1, .int .i64 f2, .bool b2] 27 (0, 0)) ∧ Chg w W4 (fun x => x = q) ∧ RdB W4 [.slice ao bl bc] bs) := ⟨HQ.out.1.op HQ.out.2 hC hq4, hq4, hC, hb.out _ hC⟩
      clear hC hq4 hf2 hb2 hO c0 c1 c3 hb HQ HF
      cases O with
      | false =>
        have E2 : Hd (BxOut q F R w W4) := ⟨⟨⟨F, by rw [HE.out]; exact P4.out.1, fun x hx => .inl hx⟩, P4.out.2.2.1.mono (fun x hx => .inl hx)⟩⟩
        clear HE P4 HW
        go_wp2_with fail
        refine bodyPost_ret (results_none rfl _ _ _) rfl ?_
        exact ⟨rfl, E2.out⟩
      | true =>
        have HE2 : Hd (R = { d with fuse := f2, down := b2, cache := d.cache ++ [⟨n, bs⟩] }) := ⟨by rw [HE.out]; rfl⟩
        clear HE
        have c1 := cellsA P4.out.2.1 1 rfl
        obtain ⟨i1, hi1, hz1, hs1, hb1⟩ := info_parts infoWrS
        obtain ⟨y0, n0, e0, y1, n1, e1, F0, F1, hp, r0, r1, k1, k2, hn⟩ := P4.out.1.parts
        have hp' := hp
        rw [P4.out.2.1] at hp'
        simp only [Option.some.injEq, Obj.cells.injEq, Array.mk.injEq, List.cons.injEq, Value.slice.injEq, and_true] at hp'
        obtain ⟨⟨e2, e3, e4⟩, e5, e6, e7⟩ := hp'
        rw [← e2, ← e3, ← e4] at r0
        rw [← e5, ← e6, ← e7] at r1
        clear e2 e3 e4 e5 e6 e7
        have PP : Hd (OwByteSS W4 [.slice x0 m0 d0] F0 d.secs ∧ OwWrS W4 [.slice x1 m1 d1] F1 d.cache ∧ (∀ x, F0 x → ¬ F1 x) ∧ (∀ x, F x ↔ F0 x ∨ F1 x) ∧ ¬ F q) := ⟨r0, r1, k1, k2, hn⟩
        have HA : Hd (bs.length ≤ 1073741824 ∧ d.cache.length = m1 ∧ m1 ≤ 40) := ⟨by rw [HBL.out]; omega, HW.out.2.2.2, by omega⟩
        have D1 : Hd (Below W4.heap.size W4 (W4.alloc (.cells #[] 5)).drew) := ⟨(below_lit W4 _).drew⟩
        have g0 := cellsA P4.out.2.1 1 rfl
        have g0d : W4.drew.cell? ⟨q, 1, none⟩ = some (.slice x1 m1 d1) := g0
        have g0e := cell_below g0 D1.out
        clear hp r0 r1 k1 k2 hn c1 HW
        go_wp2_with fail
        refine wp_region_held_drew (S := fun _ => True) (by kernel_rfl) (trivial) (fun hHeld => ?_)
        refine wpAnyH_take (i := 0) (oi := { dst := some 39, op := Op.move (Operand.tmp 0), type := 64, pos := _, after := #[], guard := none }) (v := ?_) rfl (by kernel_rfl) (by kernel_rfl) (by kernel_rfl) (fun _ _ _ h => h) (Or.inl ⟨by rfl, ?_⟩) (by assumption) ?_
        rotate_left
        · intro w9 hSw
          try dsimp only at hSw
          go_simp
          try with_reducible rfl
        simp only [Act.put, List.setIfInBounds_toArray, List.set_cons_zero, List.set_cons_succ]
        refine wpAnyH_take (i := 1) (oi := { dst := some 40, op := Op.move (Operand.tmp 0), type := 64, pos := _, after := #[], guard := none }) (v := ?_) rfl (by kernel_rfl) (by kernel_rfl) (by kernel_rfl) (fun _ _ _ h => h) (Or.inl ⟨by rfl, ?_⟩) (by assumption) ?_
        rotate_left
        · intro w9 hSw
          try dsimp only at hSw
          go_simp
          try with_reducible rfl
        simp only [Act.put, List.setIfInBounds_toArray, List.set_cons_zero, List.set_cons_succ]
        refine wpAnyH_take (i := 2) (oi := { dst := some 41, op := Op.nilCheck (Operand.tmp 40), type := 0, pos := _, after := #[{ on := 1, ground := Ground.data }], guard := none }) (v := ?_) rfl (by kernel_rfl) (by kernel_rfl) (by kernel_rfl) (fun _ _ _ h => h) (Or.inl ⟨by rfl, ?_⟩) (by assumption) ?_
        rotate_left
        · intro w9 hSw
          try dsimp only at hSw
          go_simp
          try with_reducible rfl
        simp only [Act.put, List.setIfInBounds_toArray, List.set_cons_zero, List.set_cons_succ]
        refine wpAnyH_take (i := 3) (oi := { dst := some 42, op := Op.fieldAddr 27 (Operand.tmp 41) 1, type := 0, pos := _, after := #[{ on := 2, ground := Ground.data }], guard := none }) (v := ?_) rfl (by kernel_rfl) (by kernel_rfl) (by kernel_rfl) (fun _ _ _ h => h) (Or.inl ⟨by rfl, ?_⟩) (by assumption) ?_
        rotate_left
        · intro w9 hSw
          try dsimp only at hSw
          go_simp
          try with_reducible rfl
        simp only [Act.put, List.setIfInBounds_toArray, List.set_cons_zero, List.set_cons_succ]
        refine wpAnyH_take (i := 5) (oi := { dst := some 44, op := Op.move (Operand.tmp 1), type := 3, pos := _, after := #[], guard := none }) (v := ?_) rfl (by kernel_rfl) (by kernel_rfl) (by kernel_rfl) (fun _ _ _ h => h) (Or.inl ⟨by rfl, ?_⟩) (by assumption) ?_
        rotate_left
        · intro w9 hSw
          try dsimp only at hSw
          go_simp
          try with_reducible rfl
        simp only [Act.put, List.setIfInBounds_toArray, List.set_cons_zero, List.set_cons_succ]
        refine wpAnyH_take (i := 7) (oi := { dst := some 46, op := Op.move (Operand.tmp 2), type := 22, pos := _, after := #[], guard := none }) (v := ?_) rfl (by kernel_rfl) (by kernel_rfl) (by kernel_rfl) (fun _ _ _ h => h) (Or.inl ⟨by rfl, ?_⟩) (by assumption) ?_
        rotate_left
        · intro w9 hSw
          try dsimp only at hSw
          go_simp
          try with_reducible rfl
        simp only [Act.put, List.setIfInBounds_toArray, List.set_cons_zero, List.set_cons_succ]
        refine wpAnyH_ready (rs := [4, 6]) (by kernel_rfl) (by simp) ?_
        refine AllReadyH.cons rfl (fun K hK => ?_) ?_
        · clear hHeld
          go_simp
          refine hK.out _ _ (trivial) (fun hHeld => ?_)
          clear hK K
          refine wpAnyH_ready (rs := [6]) (by kernel_rfl) (by simp) ?_
          refine AllReadyH.cons rfl (fun K hK => ?_) AllReadyH.nil
          clear hHeld
          go_simp
          refine hK.out _ _ (trivial) (fun hHeld => ?_)
          clear hK K
          refine wpAnyH_ready (rs := [8]) (by kernel_rfl) (by simp) ?_
          refine AllReadyH.cons rfl (fun K hK => ?_) AllReadyH.nil
          clear hHeld
          refine step_emp rfl (.tmp 45) (.tmp 46) rfl W4.heap.size rfl (heap_alloc_new W4 _) ao bl bc bs rfl (rdB_ok.below P4.out.2.2.2 D1.out) HA.out.1 ?_
          intro z0 zc wv hN hG
          obtain ⟨G, hE, hGl⟩ := hN
          have D2 : Hd (Below W4.heap.size W4 wv) := ⟨below_grows D1.out hG (by simp) (Nat.le_refl _)⟩
          have g1 := cell_below g0 D2.out
          have g2 := cell_below g1 (below_lit wv (.cells #[.int .i64 n, .slice z0 bl zc] 35))
          have D3 : Hd (Below W4.heap.size W4 (wv.alloc (.cells #[.int .i64 n, .slice z0 bl zc] 35))) := ⟨Below.next D2.out (below_lit wv _)⟩
          have HX : Hd (OwWrS (wv.alloc (.cells #[.int .i64 n, .slice z0 bl zc] 35)) [.slice x1 m1 d1] F1 d.cache ∧ OwWr (wv.alloc (.cells #[.int .i64 n, .slice z0 bl zc] 35)) [.int .i64 n, .slice z0 bl zc] G ⟨n, bs⟩ ∧ (∀ x, G x → ¬ F1 x) ∧ (∀ x, G x → W4.heap.size ≤ x)) := ⟨owWrS_ok.below PP.out.2.1 D3.out, owWr_ok.below ⟨z0, bl, zc, G, rfl, hE, fun x => Iff.rfl⟩ (below_lit wv _), fun x hx hy => (by have h7 := hGl x hx; have h8 := owWrS_ok.lt PP.out.2.1 x hy; omega), hGl⟩
          clear hE hGl hG
          refine hK.out _ _ (trivial) (fun hHeld => ?_)
          clear hK K
          refine wpAnyH_take (i := 9) (oi := { dst := some 48, op := Op.build 35 #[(0, Operand.tmp 44), (1, Operand.tmp 47)], type := 35, pos := _, after := #[{ on := 5, ground := Ground.data }, { on := 8, ground := Ground.data }], guard := none }) (v := ?_) rfl (by kernel_rfl) (by kernel_rfl) (by kernel_rfl) (fun _ _ _ h => h) (Or.inl ⟨by rfl, ?_⟩) (by assumption) ?_
          rotate_left
          · intro w9 hSw
            try dsimp only at hSw
            go_simp
            try with_reducible rfl
          simp only [Act.put, List.setIfInBounds_toArray, List.set_cons_zero, List.set_cons_succ]
          refine wpAnyH_ready (rs := [10]) (by kernel_rfl) (by simp) ?_
          refine AllReadyH.cons rfl (fun K hK => ?_) AllReadyH.nil
          clear hHeld
          go_simp
          refine hK.out _ _ (trivial) (fun hHeld => ?_)
          clear hK K
          refine wpAnyH_ready (rs := [11]) (by kernel_rfl) (by simp) ?_
          refine AllReadyH.cons rfl (fun K hK => ?_) AllReadyH.nil
          clear hHeld
          refine step_push rfl owWr_ok (.tmp 43) (.tmp 49) 25 rfl Try.underlying25 hi1 hz1 hs1 hb1 rfl (by omega) (v := .slice x1 m1 d1) rfl HX.out.1 (q := wv.heap.size) (c' := [.int .i64 n, .slice z0 bl zc]) (a' := ⟨n, bs⟩) (G := G) rfl (alloc_new wv _ rfl) rfl (by intro u hu; simp only [List.mem_cons, List.not_mem_nil, or_false] at hu; rcases hu with rfl | rfl <;> rfl) HX.out.2.1 HX.out.2.2.1 (by have := HA.out.2; unfold maxLen; omega) (by have := HA.out.2; omega) ?_
          intro v' wz hpush hgrow
          obtain ⟨x2, s2, hv'⟩ : ∃ x2 d2, v' = .slice x2 (m1 + 1) d2 := by
            obtain ⟨F', hOw, _⟩ := hpush
            obtain ⟨x2, d2, e, _⟩ := owS_slice hOw
            rw [List.length_append, HA.out.2.1] at e
            exact ⟨x2, d2, e⟩
          subst hv'
          have HPU : Hd ((∃ F' : Fp, OwWrS wz [.slice x2 (m1 + 1) s2] F' (d.cache ++ [⟨n, bs⟩]) ∧ ∀ x, F' x → F1 x ∨ G x ∨ (wv.alloc (.cells #[.int .i64 n, .slice z0 bl zc] 35)).heap.size ≤ x) ∧ (wv.alloc (.cells #[.int .i64 n, .slice z0 bl zc] 35)).grownBy wz (Value.slice x1 m1 d1).ownBlock) := ⟨hpush, hgrow⟩
          have hb7 := box_grown ((D3.out.block _ (lt_of_block P4.out.2.1)).trans P4.out.2.1) HX.out.1 (fun hx => PP.out.2.2.2.2 ((PP.out.2.2.2.1 q).2 (.inr hx))) hgrow
          have t5 := cellsA hb7 1 rfl
          have f5 := freeA hb7 1
          clear hpush hgrow hb7
          refine hK.out _ _ (trivial) (fun hHeld => ?_)
          clear hK K
          refine wpAnyH_take (i := 12) (oi := { dst := some 51, op := Op.nilCheck (Operand.tmp 39), type := 0, pos := _, after := #[{ on := 0, ground := Ground.data }, { on := 0, ground := Ground.phase }, { on := 1, ground := Ground.phase }, { on := 2, ground := Ground.phase }, { on := 3, ground := Ground.phase }, { on := 4, ground := Ground.phase }, { on := 5, ground := Ground.phase }, { on := 6, ground := Ground.phase }, { on := 7, ground := Ground.phase }, { on := 8, ground := Ground.phase }, { on := 9, ground := Ground.phase }, { on := 10, ground := Ground.phase }, { on := 11, ground := Ground.phase }], guard := none }) (v := ?_) rfl (by kernel_rfl) (by kernel_rfl) (by kernel_rfl) (fun _ _ _ h => h) (Or.inl ⟨by rfl, ?_⟩) (by assumption) ?_
          rotate_left
          · intro w9 hSw
            try dsimp only at hSw
            go_simp
            try with_reducible rfl
          simp only [Act.put, List.setIfInBounds_toArray, List.set_cons_zero, List.set_cons_succ]
          refine wpAnyH_take (i := 13) (oi := { dst := some 52, op := Op.fieldAddr 27 (Operand.tmp 51) 1, type := 0, pos := _, after := #[{ on := 12, ground := Ground.data }, { on := 0, ground := Ground.phase }, { on := 1, ground := Ground.phase }, { on := 2, ground := Ground.phase }, { on := 3, ground := Ground.phase }, { on := 4, ground := Ground.phase }, { on := 5, ground := Ground.phase }, { on := 6, ground := Ground.phase }, { on := 7, ground := Ground.phase }, { on := 8, ground := Ground.phase }, { on := 9, ground := Ground.phase }, { on := 10, ground := Ground.phase }, { on := 11, ground := Ground.phase }], guard := none }) (v := ?_) rfl (by kernel_rfl) (by kernel_rfl) (by kernel_rfl) (fun _ _ _ h => h) (Or.inl ⟨by rfl, ?_⟩) (by assumption) ?_
          rotate_left
          · intro w9 hSw
            try dsimp only at hSw
            go_simp
            try with_reducible rfl
          simp only [Act.put, List.setIfInBounds_toArray, List.set_cons_zero, List.set_cons_succ]
          refine wpAnyH_ready (rs := [14]) (by kernel_rfl) (by simp) ?_
          refine AllReadyH.cons rfl (fun K hK => ?_) AllReadyH.nil
          clear hHeld
          go_simp
          refine hK.out _ _ (trivial) (fun hHeld => ?_)
          clear hK K
          refine wpAnyH_done (by kernel_rfl) ?_ _
          obtain ⟨F', hOw, hF'⟩ := HPU.out.1
          have HZ : Hd (BxOut q F R w (wz.setCell ⟨q, 1, none⟩ (.slice x2 (m1 + 1) s2))) := ⟨by
            have h7 := BoxDev.push (d := { d with fuse := f2, down := b2 }) (F := F) ((D3.out.block _ (lt_of_block P4.out.2.1)).trans P4.out.2.1) (owByteSS_ok.below PP.out.1 D3.out) HX.out.1 PP.out.2.2.1 PP.out.2.2.2.1 PP.out.2.2.2.2 hOw hF' HX.out.2.2.2 (lt_of_block P4.out.2.1) P4.out.1.lt.2 HPU.out.2
            have hsz := P4.out.2.2.1.size
            refine ⟨⟨_, by rw [HE2.out]; exact h7.1, fun x hx => ?_⟩, ((P4.out.2.2.1.mono (fun x hx => .inl hx)).trans (Chg.of_below D3.out)).trans h7.2⟩
            rcases hx with hx | hx
            · exact .inl ((PP.out.2.2.2.1 x).2 (.inl hx))
            · rcases hF' x hx with hx | hx | hx
              · exact .inl ((PP.out.2.2.2.1 x).2 (.inr hx))
              · have := HX.out.2.2.2 x hx; exact .inr (by omega)
              · have := D3.out.size; exact .inr (by omega)⟩
          clear HPU HX D1 D2 D3 PP P4 HA HE2 hOw hF' t5 f5 g0 g0d g0e g1 g2 hi1 hz1 hs1 hb1 hHeld
          go_wp2_with fail
          go_end0
          exact ⟨rfl, HZ.out⟩
        refine AllReadyH.cons rfl (fun K hK => ?_) ?_
        · clear hHeld
          go_simp
          refine hK.out _ _ (trivial) (fun hHeld => ?_)
          clear hK K
          refine wpAnyH_ready (rs := [4, 8]) (by kernel_rfl) (by simp) ?_
          refine AllReadyH.cons rfl (fun K hK => ?_) ?_
          · clear hHeld
            go_simp
            refine hK.out _ _ (trivial) (fun hHeld => ?_)
            clear hK K
            refine wpAnyH_ready (rs := [8]) (by kernel_rfl) (by simp) ?_
            refine AllReadyH.cons rfl (fun K hK => ?_) AllReadyH.nil
            clear hHeld
            refine step_emp rfl (.tmp 45) (.tmp 46) rfl W4.heap.size rfl (heap_alloc_new W4 _) ao bl bc bs rfl (rdB_ok.below P4.out.2.2.2 D1.out) HA.out.1 ?_
            intro z0 zc wv hN hG
            obtain ⟨G, hE, hGl⟩ := hN
            have D2 : Hd (Below W4.heap.size W4 wv) := ⟨below_grows D1.out hG (by simp) (Nat.le_refl _)⟩
            have g1 := cell_below g0 D2.out
            have g2 := cell_below g1 (below_lit wv (.cells #[.int .i64 n, .slice z0 bl zc] 35))
            have D3 : Hd (Below W4.heap.size W4 (wv.alloc (.cells #[.int .i64 n, .slice z0 bl zc] 35))) := ⟨Below.next D2.out (below_lit wv _)⟩
            have HX : Hd (OwWrS (wv.alloc (.cells #[.int .i64 n, .slice z0 bl zc] 35)) [.slice x1 m1 d1] F1 d.cache ∧ OwWr (wv.alloc (.cells #[.int .i64 n, .slice z0 bl zc] 35)) [.int .i64 n, .slice z0 bl zc] G ⟨n, bs⟩ ∧ (∀ x, G x → ¬ F1 x) ∧ (∀ x, G x → W4.heap.size ≤ x)) := ⟨owWrS_ok.below PP.out.2.1 D3.out, owWr_ok.below ⟨z0, bl, zc, G, rfl, hE, fun x => Iff.rfl⟩ (below_lit wv _), fun x hx hy => (by have h7 := hGl x hx; have h8 := owWrS_ok.lt PP.out.2.1 x hy; omega), hGl⟩
            clear hE hGl hG
            refine hK.out _ _ (trivial) (fun hHeld => ?_)
            clear hK K
            refine wpAnyH_take (i := 9) (oi := { dst := some 48, op := Op.build 35 #[(0, Operand.tmp 44), (1, Operand.tmp 47)], type := 35, pos := _, after := #[{ on := 5, ground := Ground.data }, { on := 8, ground := Ground.data }], guard := none }) (v := ?_) rfl (by kernel_rfl) (by kernel_rfl) (by kernel_rfl) (fun _ _ _ h => h) (Or.inl ⟨by rfl, ?_⟩) (by assumption) ?_
            rotate_left
            · intro w9 hSw
              try dsimp only at hSw
              go_simp
              try with_reducible rfl
            simp only [Act.put, List.setIfInBounds_toArray, List.set_cons_zero, List.set_cons_succ]
            refine wpAnyH_ready (rs := [10]) (by kernel_rfl) (by simp) ?_
            refine AllReadyH.cons rfl (fun K hK => ?_) AllReadyH.nil
            clear hHeld
            go_simp
            refine hK.out _ _ (trivial) (fun hHeld => ?_)
            clear hK K
            refine wpAnyH_ready (rs := [11]) (by kernel_rfl) (by simp) ?_
            refine AllReadyH.cons rfl (fun K hK => ?_) AllReadyH.nil
            clear hHeld
            refine step_push rfl owWr_ok (.tmp 43) (.tmp 49) 25 rfl Try.underlying25 hi1 hz1 hs1 hb1 rfl (by omega) (v := .slice x1 m1 d1) rfl HX.out.1 (q := wv.heap.size) (c' := [.int .i64 n, .slice z0 bl zc]) (a' := ⟨n, bs⟩) (G := G) rfl (alloc_new wv _ rfl) rfl (by intro u hu; simp only [List.mem_cons, List.not_mem_nil, or_false] at hu; rcases hu with rfl | rfl <;> rfl) HX.out.2.1 HX.out.2.2.1 (by have := HA.out.2; unfold maxLen; omega) (by have := HA.out.2; omega) ?_
            intro v' wz hpush hgrow
            obtain ⟨x2, s2, hv'⟩ : ∃ x2 d2, v' = .slice x2 (m1 + 1) d2 := by
              obtain ⟨F', hOw, _⟩ := hpush
              obtain ⟨x2, d2, e, _⟩ := owS_slice hOw
              rw [List.length_append, HA.out.2.1] at e
              exact ⟨x2, d2, e⟩
            subst hv'
            have HPU : Hd ((∃ F' : Fp, OwWrS wz [.slice x2 (m1 + 1) s2] F' (d.cache ++ [⟨n, bs⟩]) ∧ ∀ x, F' x → F1 x ∨ G x ∨ (wv.alloc (.cells #[.int .i64 n, .slice z0 bl zc] 35)).heap.size ≤ x) ∧ (wv.alloc (.cells #[.int .i64 n, .slice z0 bl zc] 35)).grownBy wz (Value.slice x1 m1 d1).ownBlock) := ⟨hpush, hgrow⟩
            have hb7 := box_grown ((D3.out.block _ (lt_of_block P4.out.2.1)).trans P4.out.2.1) HX.out.1 (fun hx => PP.out.2.2.2.2 ((PP.out.2.2.2.1 q).2 (.inr hx))) hgrow
            have t5 := cellsA hb7 1 rfl
            have f5 := freeA hb7 1
            clear hpush hgrow hb7
            refine hK.out _ _ (trivial) (fun hHeld => ?_)
            clear hK K
            refine wpAnyH_take (i := 12) (oi := { dst := some 51, op := Op.nilCheck (Operand.tmp 39), type := 0, pos := _, after := #[{ on := 0, ground := Ground.data }, { on := 0, ground := Ground.phase }, { on := 1, ground := Ground.phase }, { on := 2, ground := Ground.phase }, { on := 3, ground := Ground.phase }, { on := 4, ground := Ground.phase }, { on := 5, ground := Ground.phase }, { on := 6, ground := Ground.phase }, { on := 7, ground := Ground.phase }, { on := 8, ground := Ground.phase }, { on := 9, ground := Ground.phase }, { on := 10, ground := Ground.phase }, { on := 11, ground := Ground.phase }], guard := none }) (v := ?_) rfl (by kernel_rfl) (by kernel_rfl) (by kernel_rfl) (fun _ _ _ h => h) (Or.inl ⟨by rfl, ?_⟩) (by assumption) ?_
            rotate_left
            · intro w9 hSw
              try dsimp only at hSw
              go_simp
              try with_reducible rfl
            simp only [Act.put, List.setIfInBounds_toArray, List.set_cons_zero, List.set_cons_succ]
            refine wpAnyH_take (i := 13) (oi := { dst := some 52, op := Op.fieldAddr 27 (Operand.tmp 51) 1, type := 0, pos := _, after := #[{ on := 12, ground := Ground.data }, { on := 0, ground := Ground.phase }, { on := 1, ground := Ground.phase }, { on := 2, ground := Ground.phase }, { on := 3, ground := Ground.phase }, { on := 4, ground := Ground.phase }, { on := 5, ground := Ground.phase }, { on := 6, ground := Ground.phase }, { on := 7, ground := Ground.phase }, { on := 8, ground := Ground.phase }, { on := 9, ground := Ground.phase }, { on := 10, ground := Ground.phase }, { on := 11, ground := Ground.phase }], guard := none }) (v := ?_) rfl (by kernel_rfl) (by kernel_rfl) (by kernel_rfl) (fun _ _ _ h => h) (Or.inl ⟨by rfl, ?_⟩) (by assumption) ?_
            rotate_left
            · intro w9 hSw
              try dsimp only at hSw
              go_simp
              try with_reducible rfl
            simp only [Act.put, List.setIfInBounds_toArray, List.set_cons_zero, List.set_cons_succ]
            refine wpAnyH_ready (rs := [14]) (by kernel_rfl) (by simp) ?_
            refine AllReadyH.cons rfl (fun K hK => ?_) AllReadyH.nil
            clear hHeld
            go_simp
            refine hK.out _ _ (trivial) (fun hHeld => ?_)
            clear hK K
            refine wpAnyH_done (by kernel_rfl) ?_ _
            obtain ⟨F', hOw, hF'⟩ := HPU.out.1
            have HZ : Hd (BxOut q F R w (wz.setCell ⟨q, 1, none⟩ (.slice x2 (m1 + 1) s2))) := ⟨by
              have h7 := BoxDev.push (d := { d with fuse := f2, down := b2 }) (F := F) ((D3.out.block _ (lt_of_block P4.out.2.1)).trans P4.out.2.1) (owByteSS_ok.below PP.out.1 D3.out) HX.out.1 PP.out.2.2.1 PP.out.2.2.2.1 PP.out.2.2.2.2 hOw hF' HX.out.2.2.2 (lt_of_block P4.out.2.1) P4.out.1.lt.2 HPU.out.2
              have hsz := P4.out.2.2.1.size
              refine ⟨⟨_, by rw [HE2.out]; exact h7.1, fun x hx => ?_⟩, ((P4.out.2.2.1.mono (fun x hx => .inl hx)).trans (Chg.of_below D3.out)).trans h7.2⟩
              rcases hx with hx | hx
              · exact .inl ((PP.out.2.2.2.1 x).2 (.inl hx))
              · rcases hF' x hx with hx | hx | hx
                · exact .inl ((PP.out.2.2.2.1 x).2 (.inr hx))
                · have := HX.out.2.2.2 x hx; exact .inr (by omega)
                · have := D3.out.size; exact .inr (by omega)⟩
            clear HPU HX D1 D2 D3 PP P4 HA HE2 hOw hF' t5 f5 g0 g0d g0e g1 g2 hi1 hz1 hs1 hb1 hHeld
            go_wp2_with fail
            go_end0
            exact ⟨rfl, HZ.out⟩
          refine AllReadyH.cons rfl (fun K hK => ?_) ?_
          · clear hHeld
            refine step_emp rfl (.tmp 45) (.tmp 46) rfl W4.heap.size rfl (heap_alloc_new W4 _) ao bl bc bs rfl (rdB_ok.below P4.out.2.2.2 D1.out) HA.out.1 ?_
            intro z0 zc wv hN hG
            obtain ⟨G, hE, hGl⟩ := hN
            have D2 : Hd (Below W4.heap.size W4 wv) := ⟨below_grows D1.out hG (by simp) (Nat.le_refl _)⟩
            have g1 := cell_below g0 D2.out
            have g2 := cell_below g1 (below_lit wv (.cells #[.int .i64 n, .slice z0 bl zc] 35))
            have D3 : Hd (Below W4.heap.size W4 (wv.alloc (.cells #[.int .i64 n, .slice z0 bl zc] 35))) := ⟨Below.next D2.out (below_lit wv _)⟩
            have HX : Hd (OwWrS (wv.alloc (.cells #[.int .i64 n, .slice z0 bl zc] 35)) [.slice x1 m1 d1] F1 d.cache ∧ OwWr (wv.alloc (.cells #[.int .i64 n, .slice z0 bl zc] 35)) [.int .i64 n, .slice z0 bl zc] G ⟨n, bs⟩ ∧ (∀ x, G x → ¬ F1 x) ∧ (∀ x, G x → W4.heap.size ≤ x)) := ⟨owWrS_ok.below PP.out.2.1 D3.out, owWr_ok.below ⟨z0, bl, zc, G, rfl, hE, fun x => Iff.rfl⟩ (below_lit wv _), fun x hx hy => (by have h7 := hGl x hx; have h8 := owWrS_ok.lt PP.out.2.1 x hy; omega), hGl⟩
            clear hE hGl hG
            refine hK.out _ _ (trivial) (fun hHeld => ?_)
            clear hK K
            refine wpAnyH_take (i := 9) (oi := { dst := some 48, op := Op.build 35 #[(0, Operand.tmp 44), (1, Operand.tmp 47)], type := 35, pos := _, after := #[{ on := 5, ground := Ground.data }, { on := 8, ground := Ground.data }], guard := none }) (v := ?_) rfl (by kernel_rfl) (by kernel_rfl) (by kernel_rfl) (fun _ _ _ h => h) (Or.inl ⟨by rfl, ?_⟩) (by assumption) ?_
            rotate_left
            · intro w9 hSw
              try dsimp only at hSw
              go_simp
              try with_reducible rfl
            simp only [Act.put, List.setIfInBounds_toArray, List.set_cons_zero, List.set_cons_succ]
            refine wpAnyH_ready (rs := [4, 10]) (by kernel_rfl) (by simp) ?_
            refine AllReadyH.cons rfl (fun K hK => ?_) ?_
            · clear hHeld
              go_simp
              refine hK.out _ _ (trivial) (fun hHeld => ?_)
              clear hK K
              refine wpAnyH_ready (rs := [10]) (by kernel_rfl) (by simp) ?_
              refine AllReadyH.cons rfl (fun K hK => ?_) AllReadyH.nil
              clear hHeld
              go_simp
              refine hK.out _ _ (trivial) (fun hHeld => ?_)
              clear hK K
              refine wpAnyH_ready (rs := [11]) (by kernel_rfl) (by simp) ?_
              refine AllReadyH.cons rfl (fun K hK => ?_) AllReadyH.nil
              clear hHeld
              refine step_push rfl owWr_ok (.tmp 43) (.tmp 49) 25 rfl Try.underlying25 hi1 hz1 hs1 hb1 rfl (by omega) (v := .slice x1 m1 d1) rfl HX.out.1 (q := wv.heap.size) (c' := [.int .i64 n, .slice z0 bl zc]) (a' := ⟨n, bs⟩) (G := G) rfl (alloc_new wv _ rfl) rfl (by intro u hu; simp only [List.mem_cons, List.not_mem_nil, or_false] at hu; rcases hu with rfl | rfl <;> rfl) HX.out.2.1 HX.out.2.2.1 (by have := HA.out.2; unfold maxLen; omega) (by have := HA.out.2; omega) ?_
              intro v' wz hpush hgrow
              obtain ⟨x2, s2, hv'⟩ : ∃ x2 d2, v' = .slice x2 (m1 + 1) d2 := by
                obtain ⟨F', hOw, _⟩ := hpush
                obtain ⟨x2, d2, e, _⟩ := owS_slice hOw
                rw [List.length_append, HA.out.2.1] at e
                exact ⟨x2, d2, e⟩
              subst hv'
              have HPU : Hd ((∃ F' : Fp, OwWrS wz [.slice x2 (m1 + 1) s2] F' (d.cache ++ [⟨n, bs⟩]) ∧ ∀ x, F' x → F1 x ∨ G x ∨ (wv.alloc (.cells #[.int .i64 n, .slice z0 bl zc] 35)).heap.size ≤ x) ∧ (wv.alloc (.cells #[.int .i64 n, .slice z0 bl zc] 35)).grownBy wz (Value.slice x1 m1 d1).ownBlock) := ⟨hpush, hgrow⟩
              have hb7 := box_grown ((D3.out.block _ (lt_of_block P4.out.2.1)).trans P4.out.2.1) HX.out.1 (fun hx => PP.out.2.2.2.2 ((PP.out.2.2.2.1 q).2 (.inr hx))) hgrow
              have t5 := cellsA hb7 1 rfl
              have f5 := freeA hb7 1
              clear hpush hgrow hb7
              refine hK.out _ _ (trivial) (fun hHeld => ?_)
              clear hK K
              refine wpAnyH_take (i := 12) (oi := { dst := some 51, op := Op.nilCheck (Operand.tmp 39), type := 0, pos := _, after := #[{ on := 0, ground := Ground.data }, { on := 0, ground := Ground.phase }, { on := 1, ground := Ground.phase }, { on := 2, ground := Ground.phase }, { on := 3, ground := Ground.phase }, { on := 4, ground := Ground.phase }, { on := 5, ground := Ground.phase }, { on := 6, ground := Ground.phase }, { on := 7, ground := Ground.phase }, { on := 8, ground := Ground.phase }, { on := 9, ground := Ground.phase }, { on := 10, ground := Ground.phase }, { on := 11, ground := Ground.phase }], guard := none }) (v := ?_) rfl (by kernel_rfl) (by kernel_rfl) (by kernel_rfl) (fun _ _ _ h => h) (Or.inl ⟨by rfl, ?_⟩) (by assumption) ?_
              rotate_left
              · intro w9 hSw
                try dsimp only at hSw
                go_simp
                try with_reducible rfl
              simp only [Act.put, List.setIfInBounds_toArray, List.set_cons_zero, List.set_cons_succ]
              refine wpAnyH_take (i := 13) (oi := { dst := some 52, op := Op.fieldAddr 27 (Operand.tmp 51) 1, type := 0, pos := _, after := #[{ on := 12, ground := Ground.data }, { on := 0, ground := Ground.phase }, { on := 1, ground := Ground.phase }, { on := 2, ground := Ground.phase }, { on := 3, ground := Ground.phase }, { on := 4, ground := Ground.phase }, { on := 5, ground := Ground.phase }, { on := 6, ground := Ground.phase }, { on := 7, ground := Ground.phase }, { on := 8, ground := Ground.phase }, { on := 9, ground := Ground.phase }, { on := 10, ground := Ground.phase }, { on := 11, ground := Ground.phase }], guard := none }) (v := ?_) rfl (by kernel_rfl) (by kernel_rfl) (by kernel_rfl) (fun _ _ _ h => h) (Or.inl ⟨by rfl, ?_⟩) (by assumption) ?_
              rotate_left
              · intro w9 hSw
                try dsimp only at hSw
                go_simp
                try with_reducible rfl
              simp only [Act.put, List.setIfInBounds_toArray, List.set_cons_zero, List.set_cons_succ]
              refine wpAnyH_ready (rs := [14]) (by kernel_rfl) (by simp) ?_
              refine AllReadyH.cons rfl (fun K hK => ?_) AllReadyH.nil
              clear hHeld
              go_simp
              refine hK.out _ _ (trivial) (fun hHeld => ?_)
              clear hK K
              refine wpAnyH_done (by kernel_rfl) ?_ _
              obtain ⟨F', hOw, hF'⟩ := HPU.out.1
              have HZ : Hd (BxOut q F R w (wz.setCell ⟨q, 1, none⟩ (.slice x2 (m1 + 1) s2))) := ⟨by
                have h7 := BoxDev.push (d := { d with fuse := f2, down := b2 }) (F := F) ((D3.out.block _ (lt_of_block P4.out.2.1)).trans P4.out.2.1) (owByteSS_ok.below PP.out.1 D3.out) HX.out.1 PP.out.2.2.1 PP.out.2.2.2.1 PP.out.2.2.2.2 hOw hF' HX.out.2.2.2 (lt_of_block P4.out.2.1) P4.out.1.lt.2 HPU.out.2
                have hsz := P4.out.2.2.1.size
                refine ⟨⟨_, by rw [HE2.out]; exact h7.1, fun x hx => ?_⟩, ((P4.out.2.2.1.mono (fun x hx => .inl hx)).trans (Chg.of_below D3.out)).trans h7.2⟩
                rcases hx with hx | hx
                · exact .inl ((PP.out.2.2.2.1 x).2 (.inl hx))
                · rcases hF' x hx with hx | hx | hx
                  · exact .inl ((PP.out.2.2.2.1 x).2 (.inr hx))
                  · have := HX.out.2.2.2 x hx; exact .inr (by omega)
                  · have := D3.out.size; exact .inr (by omega)⟩
              clear HPU HX D1 D2 D3 PP P4 HA HE2 hOw hF' t5 f5 g0 g0d g0e g1 g2 hi1 hz1 hs1 hb1 hHeld
              go_wp2_with fail
              go_end0
              exact ⟨rfl, HZ.out⟩
            refine AllReadyH.cons rfl (fun K hK => ?_) ?_
            · clear hHeld
              go_simp
              refine hK.out _ _ (trivial) (fun hHeld => ?_)
              clear hK K
              refine wpAnyH_ready (rs := [4]) (by kernel_rfl) (by simp) ?_
              refine AllReadyH.cons rfl (fun K hK => ?_) AllReadyH.nil
              clear hHeld
              go_simp
              refine hK.out _ _ (trivial) (fun hHeld => ?_)
              clear hK K
              refine wpAnyH_ready (rs := [11]) (by kernel_rfl) (by simp) ?_
              refine AllReadyH.cons rfl (fun K hK => ?_) AllReadyH.nil
              clear hHeld
              refine step_push rfl owWr_ok (.tmp 43) (.tmp 49) 25 rfl Try.underlying25 hi1 hz1 hs1 hb1 rfl (by omega) (v := .slice x1 m1 d1) rfl HX.out.1 (q := wv.heap.size) (c' := [.int .i64 n, .slice z0 bl zc]) (a' := ⟨n, bs⟩) (G := G) rfl (alloc_new wv _ rfl) rfl (by intro u hu; simp only [List.mem_cons, List.not_mem_nil, or_false] at hu; rcases hu with rfl | rfl <;> rfl) HX.out.2.1 HX.out.2.2.1 (by have := HA.out.2; unfold maxLen; omega) (by have := HA.out.2; omega) ?_
              intro v' wz hpush hgrow
              obtain ⟨x2, s2, hv'⟩ : ∃ x2 d2, v' = .slice x2 (m1 + 1) d2 := by
                obtain ⟨F', hOw, _⟩ := hpush
                obtain ⟨x2, d2, e, _⟩ := owS_slice hOw
                rw [List.length_append, HA.out.2.1] at e
                exact ⟨x2, d2, e⟩
              subst hv'
              have HPU : Hd ((∃ F' : Fp, OwWrS wz [.slice x2 (m1 + 1) s2] F' (d.cache ++ [⟨n, bs⟩]) ∧ ∀ x, F' x → F1 x ∨ G x ∨ (wv.alloc (.cells #[.int .i64 n, .slice z0 bl zc] 35)).heap.size ≤ x) ∧ (wv.alloc (.cells #[.int .i64 n, .slice z0 bl zc] 35)).grownBy wz (Value.slice x1 m1 d1).ownBlock) := ⟨hpush, hgrow⟩
              have hb7 := box_grown ((D3.out.block _ (lt_of_block P4.out.2.1)).trans P4.out.2.1) HX.out.1 (fun hx => PP.out.2.2.2.2 ((PP.out.2.2.2.1 q).2 (.inr hx))) hgrow
              have t5 := cellsA hb7 1 rfl
              have f5 := freeA hb7 1
              clear hpush hgrow hb7
              refine hK.out _ _ (trivial) (fun hHeld => ?_)
              clear hK K
              refine wpAnyH_take (i := 12) (oi := { dst := some 51, op := Op.nilCheck (Operand.tmp 39), type := 0, pos := _, after := #[{ on := 0, ground := Ground.data }, { on := 0, ground := Ground.phase }, { on := 1, ground := Ground.phase }, { on := 2, ground := Ground.phase }, { on := 3, ground := Ground.phase }, { on := 4, ground := Ground.phase }, { on := 5, ground := Ground.phase }, { on := 6, ground := Ground.phase }, { on := 7, ground := Ground.phase }, { on := 8, ground := Ground.phase }, { on := 9, ground := Ground.phase }, { on := 10, ground := Ground.phase }, { on := 11, ground := Ground.phase }], guard := none }) (v := ?_) rfl (by kernel_rfl) (by kernel_rfl) (by kernel_rfl) (fun _ _ _ h => h) (Or.inl ⟨by rfl, ?_⟩) (by assumption) ?_
              rotate_left
              · intro w9 hSw
                try dsimp only at hSw
                go_simp
                try with_reducible rfl
              simp only [Act.put, List.setIfInBounds_toArray, List.set_cons_zero, List.set_cons_succ]
              refine wpAnyH_take (i := 13) (oi := { dst := some 52, op := Op.fieldAddr 27 (Operand.tmp 51) 1, type := 0, pos := _, after := #[{ on := 12, ground := Ground.data }, { on := 0, ground := Ground.phase }, { on := 1, ground := Ground.phase }, { on := 2, ground := Ground.phase }, { on := 3, ground := Ground.phase }, { on := 4, ground := Ground.phase }, { on := 5, ground := Ground.phase }, { on := 6, ground := Ground.phase }, { on := 7, ground := Ground.phase }, { on := 8, ground := Ground.phase }, { on := 9, ground := Ground.phase }, { on := 10, ground := Ground.phase }, { on := 11, ground := Ground.phase }], guard := none }) (v := ?_) rfl (by kernel_rfl) (by kernel_rfl) (by kernel_rfl) (fun _ _ _ h => h) (Or.inl ⟨by rfl, ?_⟩) (by assumption) ?_
              rotate_left
              · intro w9 hSw
                try dsimp only at hSw
                go_simp
                try with_reducible rfl
              simp only [Act.put, List.setIfInBounds_toArray, List.set_cons_zero, List.set_cons_succ]
              refine wpAnyH_ready (rs := [14]) (by kernel_rfl) (by simp) ?_
              refine AllReadyH.cons rfl (fun K hK => ?_) AllReadyH.nil
              clear hHeld
              go_simp
              refine hK.out _ _ (trivial) (fun hHeld => ?_)
              clear hK K
              refine wpAnyH_done (by kernel_rfl) ?_ _
              obtain ⟨F', hOw, hF'⟩ := HPU.out.1
              have HZ : Hd (BxOut q F R w (wz.setCell ⟨q, 1, none⟩ (.slice x2 (m1 + 1) s2))) := ⟨by
                have h7 := BoxDev.push (d := { d with fuse := f2, down := b2 }) (F := F) ((D3.out.block _ (lt_of_block P4.out.2.1)).trans P4.out.2.1) (owByteSS_ok.below PP.out.1 D3.out) HX.out.1 PP.out.2.2.1 PP.out.2.2.2.1 PP.out.2.2.2.2 hOw hF' HX.out.2.2.2 (lt_of_block P4.out.2.1) P4.out.1.lt.2 HPU.out.2
                have hsz := P4.out.2.2.1.size
                refine ⟨⟨_, by rw [HE2.out]; exact h7.1, fun x hx => ?_⟩, ((P4.out.2.2.1.mono (fun x hx => .inl hx)).trans (Chg.of_below D3.out)).trans h7.2⟩
                rcases hx with hx | hx
                · exact .inl ((PP.out.2.2.2.1 x).2 (.inl hx))
                · rcases hF' x hx with hx | hx | hx
                  · exact .inl ((PP.out.2.2.2.1 x).2 (.inr hx))
                  · have := HX.out.2.2.2 x hx; exact .inr (by omega)
                  · have := D3.out.size; exact .inr (by omega)⟩
              clear HPU HX D1 D2 D3 PP P4 HA HE2 hOw hF' t5 f5 g0 g0d g0e g1 g2 hi1 hz1 hs1 hb1 hHeld
              go_wp2_with fail
              go_end0
              exact ⟨rfl, HZ.out⟩
            exact AllReadyH.nil
          exact AllReadyH.nil
        exact AllReadyH.nil

end Go.Proofs.Ytidbhdlhcmjhkaa
