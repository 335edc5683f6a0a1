/- The specification: WriteSec. -/
import Derived.Test.YtmoalbopbgfgdabDevOp
namespace Go.Proofs.Ytmoalbopbgfgdab
set_option maxRecDepth 4000
open Go.RowKit

theorem CpAt.bx {w wx w' : World} {A : Array Value} {q : Nat} {d d' : DevD} {F : Fp} (h : CpAt w A q d wx) (hF : ∀ x, F x → w.heap.size + 2 ≤ x) (hB : BxOut q F d' wx w') : CpAt w A q d' w' := by
  have h2 := h.q2
  have ha := lt_of_block h.arg
  have hr := lt_of_block h.res
  obtain ⟨⟨F', hb, hF'⟩, hc⟩ := hB
  refine ⟨h.bel.trans (hc.below (B := w.heap.size) (fun x hx => hx.elim (fun e => by omega) (fun e => by have := hF x e; omega)) h.bel.size), (hc.block _ ha (fun hx => hx.elim (fun e => by omega) (fun e => by have := hF _ e; omega))).trans h.arg, (hc.block _ hr (fun hx => hx.elim (fun e => by omega) (fun e => by have := hF _ e; omega))).trans h.res, ⟨F', hb, fun x hx => ?_⟩, h2⟩
  rcases hF' x hx with h3 | h3
  · exact hF x h3
  · omega

end Go.Proofs.Ytmoalbopbgfgdab
