/- A device in a box of its own: its cells, and what is put into it. -/
import Derived.Test.YtidbhdlhcmjhkaaDpDev
import Derived.Test.YtidbhdlhcmjhkaaCloneB
namespace Go.Proofs.Ytidbhdlhcmjhkaa
set_option maxRecDepth 4000
open Go.RowKit

def BoxDev (w : World) (q : Nat) (F : Fp) (d : DevD) : Prop := ∃ cs : List Value, w.heap[q]? = some (.cells cs.toArray 27 (0, 0)) ∧ OwDev w cs F d ∧ ¬ F q
theorem BoxDev.lt {w : World} {q : Nat} {F : Fp} {d : DevD} (h : BoxDev w q F d) : q < w.heap.size ∧ ∀ x, F x → x < w.heap.size := by
  obtain ⟨cs, hq, hO, _⟩ := h
  exact ⟨lt_of_block hq, owDev_ok.lt hO⟩
theorem BoxDev.keep {w w' : World} {q : Nat} {F : Fp} {d : DevD} (h : BoxDev w q F d) (hq : w'.heap[q]? = w.heap[q]?) (hF : ∀ b, F b → w'.heap[b]? = w.heap[b]?) : BoxDev w' q F d := by
  obtain ⟨cs, h1, hO, hn⟩ := h
  exact ⟨cs, hq.trans h1, owDev_ok.keep hO hF, hn⟩
theorem BoxDev.below {w w' : World} {q : Nat} {F : Fp} {d : DevD} (h : BoxDev w q F d) (hb : Below w.heap.size w w') : BoxDev w' q F d := h.keep (hb.block q h.lt.1) (fun b hF => hb.block b (h.lt.2 b hF))
theorem BoxDev.drew {w : World} {q : Nat} {F : Fp} {d : DevD} (h : BoxDev w q F d) : BoxDev w.drew q F d := h.keep rfl (fun _ _ => rfl)
theorem BoxDev.parts {w : World} {q : Nat} {F : Fp} {d : DevD} (h : BoxDev w q F d) : ∃ x0 m0 d0 x1 m1 d1 F0 F1, w.heap[q]? = some (.cells #[.slice x0 m0 d0, .slice x1 m1 d1, .int .i64 d.fuse, .bool d.down] 27 (0, 0)) ∧
    OwByteSS w [.slice x0 m0 d0] F0 d.secs ∧ OwWrS w [.slice x1 m1 d1] F1 d.cache ∧ (∀ x, F0 x → ¬ F1 x) ∧ (∀ x, F x ↔ F0 x ∨ F1 x) ∧ ¬ F q := by
  obtain ⟨cs, hq, ⟨x0, m0, d0, x1, m1, d1, F0, F1, rfl, r0, r1, h1, h2⟩, hn⟩ := h
  exact ⟨x0, m0, d0, x1, m1, d1, F0, F1, hq, r0, r1, h1, h2, hn⟩
theorem boxDev_of {w : World} {q : Nat} {F F0 F1 : Fp} {d : DevD} {x0 x1 : Option Addr} {m0 d0 m1 d1 : Nat} (hq : w.heap[q]? = some (.cells #[.slice x0 m0 d0, .slice x1 m1 d1, .int .i64 d.fuse, .bool d.down] 27 (0, 0)))
    (r0 : OwByteSS w [.slice x0 m0 d0] F0 d.secs) (r1 : OwWrS w [.slice x1 m1 d1] F1 d.cache) (h1 : ∀ x, F0 x → ¬ F1 x) (h2 : ∀ x, F x ↔ F0 x ∨ F1 x) (hn : ¬ F q) : BoxDev w q F d := ⟨[_, _, _, _], hq, ⟨x0, m0, d0, x1, m1, d1, F0, F1, rfl, r0, r1, h1, h2⟩, hn⟩

/-- A sector of it is put: new bytes. -/
theorem BoxDev.putSec {w w1 : World} {q : Nat} {F : Fp} {d : DevD} (h : BoxDev w q F d) {g m0 d0 k : Nat} {v1 v2 v3 : Value} (hq : w.heap[q]? = some (.cells #[.slice (some ⟨g, 0, none⟩) m0 d0, v1, v2, v3] 27 (0, 0))) (hk : k < m0)
    (hb : Below w.heap.size w w1) {v : Value} {bs : List UInt8} (hN : New w.heap.size OwB w1 [v] bs) : ∃ F' : Fp, BoxDev (w1.setCell ⟨g, k, none⟩ v) q F' { d with secs := d.secs.set k bs } ∧ ∀ x, F' x → F x ∨ w.heap.size ≤ x := by
  obtain ⟨x0, m0', d0', x1, m1, d1, F0, F1, hq', r0, r1, h1, h2, hn⟩ := h.parts
  rw [hq] at hq'
  simp only [Option.some.injEq, Obj.cells.injEq, Array.mk.injEq, List.cons.injEq, Value.slice.injEq, and_true] at hq'
  obtain ⟨⟨rfl, rfl, rfl⟩, rfl, rfl, rfl⟩ := hq'
  obtain ⟨G, hE, hG⟩ := hN
  have hg : F0 g := by obtain ⟨c, a, _, _, _, _, hg, _⟩ := owS_at r0 hk; exact hg
  have hlt := h.lt
  have hgq : q ≠ g := fun e => hn ((h2 q).2 (.inl (by rw [e]; exact hg)))
  have r0' := owS_put owB_ok r0 hk rfl (Chg.of_below hb) hE hG
  rw [Nat.mul_one] at r0'
  refine ⟨fun x => (F0 x ∨ G x) ∨ F1 x, boxDev_of ((heap_setCell_other w1 ⟨g, k, none⟩ q v hgq).trans ((hb.block q hlt.1).trans hq)) r0' ((owWrS_ok.below r1 hb |> fun r => owWrS_ok.keep r (fun b hb2 => block_set rfl (fun e => h1 g hg (by rw [← e]; exact hb2))))) ?_ (fun x => Iff.rfl) ?_, ?_⟩
  · rintro x (hx | hx) hy
    · exact h1 x hx hy
    · have := hG x hx; have := owWrS_ok.lt r1 x hy; omega
  · rintro ((hx | hx) | hx)
    · exact hn ((h2 q).2 (.inl hx))
    · have := hG q hx; omega
    · exact hn ((h2 q).2 (.inr hx))
  · rintro x ((hx | hx) | hx)
    · exact .inl ((h2 x).2 (.inl hx))
    · exact .inr (hG x hx)
    · exact .inl ((h2 x).2 (.inr hx))
/-- A write of its cache is put: a number, new bytes. -/
theorem BoxDev.putWr {w w1 : World} {q : Nat} {F : Fp} {d : DevD} (h : BoxDev w q F d) {g m1 d1 k : Nat} {v0 v2 v3 : Value} (hq : w.heap[q]? = some (.cells #[v0, .slice (some ⟨g, 0, none⟩) m1 d1, v2, v3] 27 (0, 0))) (hk : k < m1)
    (hb : Below w.heap.size w w1) {ao : Option Addr} {len cap : Nat} {nn : Int} {bs : List UInt8} (hN : New w.heap.size OwB w1 [.slice ao len cap] bs) : ∃ F' : Fp, BoxDev ((w1.setCell ⟨g, k * 2, none⟩ (.int .i64 nn)).setCell ⟨g, k * 2 + 1, none⟩ (.slice ao len cap)) q F' { d with cache := d.cache.set k ⟨nn, bs⟩ } ∧ ∀ x, F' x → F x ∨ w.heap.size ≤ x := by
  obtain ⟨x0, m0, d0, x1, m1', d1', F0, F1, hq', r0, r1, h1, h2, hn⟩ := h.parts
  rw [hq] at hq'
  simp only [Option.some.injEq, Obj.cells.injEq, Array.mk.injEq, List.cons.injEq, Value.slice.injEq, and_true] at hq'
  obtain ⟨rfl, ⟨rfl, rfl, rfl⟩, rfl, rfl⟩ := hq'
  obtain ⟨G, hE, hG⟩ := hN
  have hg : F1 g := by obtain ⟨c, a, _, _, _, _, hg, _⟩ := owS_at r1 hk; exact hg
  have hlt := h.lt
  have hgq : q ≠ g := fun e => hn ((h2 q).2 (.inr (by rw [e]; exact hg)))
  have hW : OwWr w1 [.int .i64 nn, .slice ao len cap] G ⟨nn, bs⟩ := ⟨ao, len, cap, G, rfl, hE, fun x => Iff.rfl⟩
  have r1' := owS_put owWr_ok r1 hk rfl (Chg.of_below hb) hW hG
  refine ⟨fun x => F0 x ∨ (F1 x ∨ G x), boxDev_of (block_set (block_set ((hb.block q hlt.1).trans hq) hgq) hgq) (owByteSS_ok.below r0 hb |> fun r => owByteSS_ok.keep r (fun b hb2 => block_set (block_set rfl (fun e => h1 g (by rw [← e]; exact hb2) hg)) (fun e => h1 g (by rw [← e]; exact hb2) hg))) r1' ?_ (fun x => Iff.rfl) ?_, ?_⟩
  · rintro x hx (hy | hy)
    · exact h1 x hx hy
    · have := hG x hy; have := owByteSS_ok.lt r0 x hx; omega
  · rintro (hx | hx | hx)
    · exact hn ((h2 q).2 (.inl hx))
    · exact hn ((h2 q).2 (.inr hx))
    · have := hG q hx; omega
  · rintro x (hx | hx | hx)
    · exact .inl ((h2 x).2 (.inl hx))
    · exact .inl ((h2 x).2 (.inr hx))
    · exact .inr (hG x hx)

theorem list_two {α : Type} {l : List α} (h : l.length = 2) : ∃ a b, l = [a, b] := by
  rcases l with _ | ⟨a, _ | ⟨b, _ | ⟨c, r⟩⟩⟩
  · simp at h
  · simp at h
  · exact ⟨a, b, rfl⟩
  · simp at h
/-- Where its sectors lie, where its writes. -/
theorem BoxDev.atSec {w : World} {q : Nat} {F : Fp} {d : DevD} (h : BoxDev w q F d) {k m : Nat} (hm : d.secs.length = m) (hk : k < m) : ∃ g c0 v1, w.heap[q]? = some (.cells #[.slice (some ⟨g, 0, none⟩) m c0, v1, .int .i64 d.fuse, .bool d.down] 27 (0, 0)) ∧
    g < w.heap.size ∧ g ≠ q ∧ F g ∧ ∃ ov, w.cell? ⟨g, k, none⟩ = some ov ∧ w.frozen? ⟨g, k, none⟩ = false := by
  obtain ⟨x0, m0, d0, x1, m1, d1, F0, F1, hq, r0, r1, h1, h2, hn⟩ := h.parts
  obtain ⟨ao, c, e, hh⟩ := owS_slice r0
  simp only [Value.slice.injEq] at e
  obtain ⟨rfl, rfl, rfl⟩ := e
  subst hm
  rcases hh with ⟨_, h0⟩ | ⟨g, rfl, hg⟩
  · rw [h0] at hk; simp at hk
  · obtain ⟨oc, oa, _, hocn, hoc, hof, hFg, _⟩ := owS_at r0 hk
    obtain ⟨ov, rfl⟩ : ∃ ov, oc = [ov] := List.length_eq_one_iff.1 hocn
    have u0 := hoc 0 _ rfl
    simp only [Nat.mul_one, Nat.add_zero] at u0
    exact ⟨g, _, _, hq, owByteSS_ok.lt r0 g hFg, fun e => hn ((h2 q).2 (.inl (by rw [← e]; exact hFg))), (h2 g).2 (.inl hFg), ov, u0, hof k⟩
theorem BoxDev.atWr {w : World} {q : Nat} {F : Fp} {d : DevD} (h : BoxDev w q F d) {k m : Nat} (hm : d.cache.length = m) (hk : k < m) : ∃ g c1 v0, w.heap[q]? = some (.cells #[v0, .slice (some ⟨g, 0, none⟩) m c1, .int .i64 d.fuse, .bool d.down] 27 (0, 0)) ∧
    g < w.heap.size ∧ g ≠ q ∧ F g ∧ ∃ ov ow, w.cell? ⟨g, k * 2, none⟩ = some ov ∧ w.cell? ⟨g, k * 2 + 1, none⟩ = some ow ∧ w.frozen? ⟨g, k * 2, none⟩ = false ∧ w.frozen? ⟨g, k * 2 + 1, none⟩ = false := by
  obtain ⟨x0, m0, d0, x1, m1, d1, F0, F1, hq, r0, r1, h1, h2, hn⟩ := h.parts
  obtain ⟨ao, c, e, hh⟩ := owS_slice r1
  simp only [Value.slice.injEq] at e
  obtain ⟨rfl, rfl, rfl⟩ := e
  subst hm
  rcases hh with ⟨_, h0⟩ | ⟨g, rfl, hg⟩
  · rw [h0] at hk; simp at hk
  · obtain ⟨oc, oa, _, hocn, hoc, hof, hFg, _⟩ := owS_at r1 hk
    obtain ⟨ov, ow, rfl⟩ := list_two hocn
    have u0 := hoc 0 _ rfl
    have u1 := hoc 1 _ rfl
    simp only [Nat.add_zero] at u0
    exact ⟨g, _, _, hq, owWrS_ok.lt r1 g hFg, fun e => hn ((h2 q).2 (.inr (by rw [← e]; exact hFg))), (h2 g).2 (.inr hFg), ov, ow, u0, u1, hof _, hof _⟩

end Go.Proofs.Ytidbhdlhcmjhkaa
