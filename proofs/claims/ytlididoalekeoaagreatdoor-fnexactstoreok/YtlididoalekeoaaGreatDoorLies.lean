/- Bytes that lie there: what they say as a text. -/
import Derived.Test.YtlididoalekeoaaGreatDoorGetSign
import Derived.Test.YtlididoalekeoaaGreatDoorLie0
namespace Go.Proofs.YtlididoalekeoaaGreatDoor
set_option maxRecDepth 4000
open Go.RowKit

theorem Lies.conv {w : World} {q n : Nat} {es : List UInt8} (h : Lies w q n es) (k m sz c : Nat) (hm : m = sz) (hk : k + sz ≤ n) :
    (convert 60 9 (.slice (some ⟨q, k, none⟩) m c)).run Tryz.prog w = .ok (.string ⟨((es.drop k).take sz).toArray⟩) w := by
  subst hm
  have := conv_from (c := c) (from_of (k := k) h.size h.cell) hk
  rw [Nat.zero_add] at this; exact this
theorem Lies.whole {w : World} {q n : Nat} {es : List UInt8} (h : Lies w q n es) (c : Nat) :
    (convert 60 9 (.slice (some ⟨q, 0, none⟩) n c)).run Tryz.prog w = .ok (.string ⟨es.toArray⟩) w := by
  have := h.conv 0 n n c rfl (by omega)
  rw [List.drop_zero, List.take_of_length_le (by rw [h.size]; exact Nat.le_refl _)] at this; exact this

end Go.Proofs.YtlididoalekeoaaGreatDoor
