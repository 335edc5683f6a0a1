/- Lists in the words of Deep: a stronger reading of the elements; elements that weigh nothing. -/
import Derived.Test.YtlididoalekeoaaGreatDoorDeepA
namespace Go.Proofs.YtlididoalekeoaaGreatDoor
set_option maxRecDepth 4000
open Go.RowKit

theorem rdS_mono {α : Type} {n : Nat} {R S : Rd α} (h : ∀ {w cs a}, R w cs a → S w cs a) {w : World} {cs : List Value} {ls : List α} (hr : RdS n R w cs ls) : RdS n S w cs ls := by
  obtain ⟨ao, len, cap, e, hm, hl, h2⟩ := hr
  refine ⟨ao, len, cap, e, hm, hl, h2.imp id ?_⟩
  rintro ⟨b, off, e, hc⟩
  exact ⟨b, off, e, fun j a ha => by
    obtain ⟨c, hn, hR, hcell⟩ := hc j a ha
    exact ⟨c, hn, h hR, hcell⟩⟩
theorem owC_zero (w : World) : OwC w [.slice none 0 0] (fun _ => False) [] := ⟨none, 0, 0, rfl, owB_nil w, Nat.le_refl _, fun _ => rfl⟩
theorem wt_none {α : Type} {f : α → Nat} (h : ∀ a, f a = 0) : ∀ ls : List α, (ls.map f).sum = 0
  | [] => rfl
  | a :: r => by rw [List.map_cons, List.sum_cons, h a, wt_none h r]

end Go.Proofs.YtlididoalekeoaaGreatDoor
