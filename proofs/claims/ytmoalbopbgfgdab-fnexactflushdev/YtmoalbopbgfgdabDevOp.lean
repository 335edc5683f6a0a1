/- The specification: one more operation; a write. -/
import Derived.Test.YtmoalbopbgfgdabDevCp
namespace Go.Proofs.Ytmoalbopbgfgdab
set_option maxRecDepth 4000
open Go.RowKit

/-- A device in a box was changed. -/
structure BxOut (q : Nat) (F : Fp) (d : DevD) (w w' : World) : Prop where
  box : ∃ F' : Fp, BoxDev w' q F' d ∧ ∀ x, F' x → F x ∨ w.heap.size ≤ x
  chg : Chg w w' (fun x => x = q ∨ F x)

set_option maxHeartbeats 1000000 in
theorem specL10Op_any (q : Nat) (s0 s1 : Value) (f : Int) (b : Bool) (w : World) (hq : w.heap[q]? = some (.cells #[s0, s1, .int .i64 f, .bool b] 29 (0, 0))) (hf : Hd (-1 ≤ f ∧ f ≤ 1000)) :
    Calls Try.prog 35 #[.pointer (some ⟨q, 0, none⟩)] w fun e w' => e = .returned (.bool (opOn f)) ∧ Chg w w' (fun x => x = q) ∧ w'.heap[q]? = some (.cells #[s0, s1, .int .i64 (opFuse f), .bool (opDown f b)] 29 (0, 0)) := by
  have HQ : Hd (w.heap[q]? = some (.cells #[s0, s1, .int .i64 f, .bool b] 29 (0, 0))) := ⟨hq⟩
  have c2 := cellsA hq 2 rfl
  have c3 := cellsA hq 3 rfl
  have k2 := freeA hq 2
  have k3 := freeA hq 3
  clear hq
  by_cases h0 : f = 0
  · subst h0
    have e1 : opFuse 0 = -1 := rfl
    have e2 : opDown 0 b = true := rfl
    have e3 : opOn 0 = false := rfl
    rw [e1, e2, e3]
    clear e1 e2 e3 hf
    go_enter Try.func35, Try.ntmps35
    go_wp2_with fail
    go_ret
    exact ⟨rfl, ((Chg.refl w (fun x => x = q)).setCell rfl _).setCell rfl _, setA (setA HQ.out 3 _ rfl) 2 _ rfl⟩
  · have e2 : opDown f b = b := if_neg h0
    have e3 : opOn f = true := by simp [opOn, h0]
    have h0' : (f == 0) = false := by simpa using h0
    by_cases h1 : 0 < f
    · have e1 : opFuse f = f - 1 := by unfold opFuse fuseDown; rw [if_neg h0, if_pos h1]
      rw [e1, e2, e3]
      have hw : wrap64 (f - 1) = f - 1 := by have := hf.out; exact wrap64_in (by omega) (by omega)
      clear e1 e2 e3 hf
      go_enter Try.func35, Try.ntmps35
      go_wp2_with fail
      go_ret
      exact ⟨rfl, (Chg.refl w (fun x => x = q)).setCell rfl _, setA HQ.out 2 _ rfl⟩
    · have e1 : opFuse f = f := by unfold opFuse fuseDown; rw [if_neg h0, if_neg h1]
      rw [e1, e2, e3]
      clear e1 e2 e3 hf
      go_enter Try.func35, Try.ntmps35
      go_wp2_with fail
      go_ret
      exact ⟨rfl, Chg.refl w _, HQ.out⟩

theorem BoxDev.op {w w' : World} {q : Nat} {F : Fp} {d : DevD} (h : BoxDev w q F d) {v0 v1 v2 v3 : Value} (hq : w.heap[q]? = some (.cells #[v0, v1, v2, v3] 29 (0, 0))) (hc : Chg w w' (fun x => x = q)) {f : Int} {b : Bool} (hq' : w'.heap[q]? = some (.cells #[v0, v1, .int .i64 f, .bool b] 29 (0, 0))) :
    BoxDev w' q F { d with fuse := f, down := b } := by
  obtain ⟨x0, m0, d0, x1, m1, d1, F0, F1, hp, r0, r1, k1, k2, hn⟩ := h.parts
  rw [hq] at hp
  simp only [Option.some.injEq, Obj.cells.injEq, Array.mk.injEq, List.cons.injEq, and_true] at hp
  obtain ⟨rfl, rfl, rfl, rfl⟩ := hp
  have hne : ∀ x, F x → ¬ x = q := fun x hx e => hn (by rw [← e]; exact hx)
  exact boxDev_of hq' (owByteSS_ok.chg r0 hc (fun x hx => hne x ((k2 x).2 (.inl hx)))) (owWrS_ok.chg r1 hc (fun x hx => hne x ((k2 x).2 (.inr hx)))) k1 k2 hn

theorem BoxDev.push {wx w' : World} {q : Nat} {d : DevD} {x0 x1 : Option Addr} {m0 d0 m1 d1 : Nat} {F F0 F1 F' G : Fp} (hq : wx.heap[q]? = some (.cells #[.slice x0 m0 d0, .slice x1 m1 d1, .int .i64 d.fuse, .bool d.down] 29 (0, 0)))
    (r0 : OwByteSS wx [.slice x0 m0 d0] F0 d.secs) (r1 : OwWrS wx [.slice x1 m1 d1] F1 d.cache) (k1 : ∀ x, F0 x → ¬ F1 x) (k2 : ∀ x, F x ↔ F0 x ∨ F1 x) (hn : ¬ F q) {x2 : Option Addr} {m2 d2 B : Nat} {c' : List WrD}
    (hp : OwWrS w' [.slice x2 m2 d2] F' c') (hF' : ∀ x, F' x → F1 x ∨ G x ∨ wx.heap.size ≤ x) (hG : ∀ x, G x → B ≤ x) (hqB : q < B) (hFB : ∀ x, F x → x < B) (hg : wx.grownBy w' (Value.slice x1 m1 d1).ownBlock) :
    BoxDev (w'.setCell ⟨q, 1, none⟩ (.slice x2 m2 d2)) q (fun x => F0 x ∨ F' x) { d with cache := c' } ∧ Chg wx (w'.setCell ⟨q, 1, none⟩ (.slice x2 m2 d2)) (fun x => x = q ∨ F x) := by
  have hown : ∀ k, (Value.slice x1 m1 d1).ownBlock = some k → F1 k := by
    intro k hk
    obtain ⟨v, css, Fs, e, P⟩ := r1
    simp only [List.cons.injEq, and_true] at e
    subst e
    exact P.blk k hk
  have ho2 : ∀ k, k < wx.heap.size → ¬ F1 k → w'.heap[k]? = wx.heap[k]? := fun k hk hn => hg.block k hk (fun e => hn (hown k e.symm))
  have hq0 := lt_of_block hq
  have hbx := (ho2 q hq0 (fun hx => hn ((k2 q).2 (.inr hx)))).trans hq
  have hne' : ∀ x, F' x → x ≠ q := by
    intro x hx e
    rcases hF' x hx with hx | hx | hx
    · exact hn ((k2 q).2 (.inr (by rw [← e]; exact hx)))
    · have := hG x hx; omega
    · omega
  have hne0 : ∀ x, F0 x → x ≠ q := fun x hx e => hn ((k2 q).2 (.inl (by rw [← e]; exact hx)))
  refine ⟨boxDev_of (setA hbx 1 _ rfl) (owByteSS_ok.keep r0 (fun x hx => block_set (ho2 x (owByteSS_ok.lt r0 x hx) (k1 x hx)) (hne0 x hx))) (owWrS_ok.keep hp (fun x hx => block_set rfl (hne' x hx))) (fun x hx hy => ?_) (fun x => Iff.rfl) (fun hx => hx.elim (fun hx => hne0 q hx rfl) (fun hx => hne' q hx rfl)), ?_⟩
  · rcases hF' x hy with hy | hy | hy
    · exact k1 x hx hy
    · have := hG x hy; have := hFB x ((k2 x).2 (.inl hx)); omega
    · have := owByteSS_ok.lt r0 x hx; omega
  · exact (Chg.of_grown hg (F := fun x => x = q ∨ F x) (fun k hk => .inr ((k2 k).2 (.inr (hown k hk))))).setCell (.inl rfl) _
theorem box_grown {wx w' : World} {q : Nat} {cs : Array Value} {x1 : Option Addr} {m1 d1 : Nat} {F1 : Fp} {ls : List WrD} (hq : wx.heap[q]? = some (.cells cs 29 (0, 0))) (r1 : OwWrS wx [.slice x1 m1 d1] F1 ls) (hn : ¬ F1 q) (hg : wx.grownBy w' (Value.slice x1 m1 d1).ownBlock) : w'.heap[q]? = some (.cells cs 29 (0, 0)) := by
  obtain ⟨v, css, Fs, e, P⟩ := r1
  simp only [List.cons.injEq, and_true] at e
  subst e
  rw [hg.block q (lt_of_block hq) (fun e => hn (P.blk q e.symm))]
  exact hq

end Go.Proofs.Ytmoalbopbgfgdab
