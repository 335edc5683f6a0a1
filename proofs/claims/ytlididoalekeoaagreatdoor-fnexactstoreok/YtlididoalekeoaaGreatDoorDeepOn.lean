/- Lists whose row is new, and whose elements are an older world's. -/
import Derived.Test.YtlididoalekeoaaGreatDoorDeepS
namespace Go.Proofs.YtlididoalekeoaaGreatDoor
set_option maxRecDepth 4000
open Go.RowKit

def RdOn {α : Type} (R : Rd α) (wB : World) : Rd α := fun _ cs a => R wB cs a
def OwOn {α : Type} (R : Rd α) (wB : World) : Ow α := fun _ cs F a => (∀ x, ¬ F x) ∧ R wB cs a
theorem rdOn_ok {α : Type} {n : Nat} {R : Rd α} (ok : RdOk n R) (wB : World) : RdOk n (RdOn R wB) := ⟨fun h => ok.len h, fun h _ => h⟩
theorem owOn_ok {α : Type} {n : Nat} {R : Rd α} (ok : RdOk n R) (wB : World) : OwOk n (OwOn R wB) (RdOn R wB) where
  len := fun h => ok.len h.2
  lt := fun h x hx => (h.1 x hx).elim
  keep := fun h _ => h
  rd := fun h => h.2
theorem rdOn_to {α : Type} {n : Nat} {R : Rd α} (ok : RdOk n R) {wB w : World} {cs : List Value} {ls : List α} (hb : Below wB.heap.size wB w) (h : RdS n (RdOn R wB) w cs ls) : RdS n R w cs ls := by
  obtain ⟨ao, len, cap, e, hm, hl, h2⟩ := h
  refine ⟨ao, len, cap, e, hm, hl, h2.imp id ?_⟩
  rintro ⟨b, off, e, hc⟩
  exact ⟨b, off, e, fun j a ha => by
    obtain ⟨c, hn, hR, hcell⟩ := hc j a ha
    exact ⟨c, hn, ok.below hR hb, hcell⟩⟩
/-- One element, in a block of its own. -/
theorem owS_one {α : Type} {n : Nat} {T : TypeId} {R : Rd α} {wB w : World} {g : Nat} {c : List Value} {a : α} (hg : w.heap[g]? = some (.cells c.toArray T (0, 0))) (hn : c.length = n) (hR : R wB c a) :
    OwS n T (OwOn R wB) w [.slice (some ⟨g, 0, none⟩) 1 1] (fun x => x = g) [a] :=
  ⟨_, [c], fun _ _ => False, rfl, {
    own := ⟨by simp [hn], .inr ⟨g, 1, c.toArray, rfl, Nat.zero_le _, hg, Nat.le_refl _, by unfold maxLen; omega, by simp [hn], by rw [← hn]; simp⟩⟩
    size := rfl
    lens := fun c' hc => by simp at hc; rw [hc, hn]
    lt := fun x hx => by rw [hx]; exact block_lt hg
    blk := fun x hx => by simp [Value.ownBlock] at hx; exact hx.symm
    sub := fun _ _ _ h => h.elim
    apart := fun _ _ _ _ _ _ h => h.elim
    els := fun j c' a' hc ha => by
      rcases j with _ | j
      · simp at hc ha
        subst hc ha
        exact ⟨fun _ h => h, hR⟩
      · simp at hc }⟩
/-- An element more: what a loop that appends carries. -/
theorem grown_on {α : Type} {n : Nat} {T : TypeId} {R : Rd α} {wB w X Y : World} {ao ao' : Option Addr} {m c m' c' L N : Nat} {F F' : Fp} {ls ls' : List α} (hO : OwS n T (OwOn R wB) X [.slice ao m c] F ls) (hF : ∀ x, F x → L ≤ x) (hB : Below w.heap.size w X) (hL : w.heap.size ≤ L)
    (hOw : OwS n T (OwOn R wB) Y [.slice ao' m' c'] F' ls') (hF' : ∀ x, F' x → F x ∨ N ≤ x) (hX : L ≤ N) (hgrow : X.grownBy Y (Value.slice ao m c).ownBlock) {q : Nat} {o : Obj} (hq : q < L) (hbox : X.heap[q]? = some o) :
    OwS n T (OwOn R wB) Y [.slice ao' m' c'] F' ls' ∧ (∀ x, F' x → L ≤ x) ∧ Below w.heap.size w Y ∧ Y.heap[q]? = some o := by
  have hown : ∀ b, (Value.slice ao m c).ownBlock = some b → L ≤ b := fun b hb => by
    obtain ⟨x3, d3, e, hcase⟩ := owS_slice hO
    simp only [Value.slice.injEq] at e
    rcases hcase with ⟨h1, _⟩ | ⟨g, h1, h2⟩
    · rw [e.1, h1] at hb; cases hb
    · rw [e.1, h1] at hb; simp [Value.ownBlock] at hb; rw [← hb]; exact hF g h2
  refine ⟨hOw, fun x hx => ?_, hB.grown hgrow hB.size (fun b hb => Nat.le_trans hL (hown b hb)), ?_⟩
  · rcases hF' x hx with h | h
    · exact hF x h
    · omega
  · rw [hgrow.block q (block_lt hbox) (fun e => by have := hown q e.symm; omega)]; exact hbox

end Go.Proofs.YtlididoalekeoaaGreatDoor
