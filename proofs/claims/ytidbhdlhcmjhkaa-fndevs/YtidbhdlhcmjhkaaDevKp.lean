/- Plain: the writes that are kept when the power is gone. -/
import Derived.Test.YtidbhdlhcmjhkaaDevQ
namespace Go.Proofs.Ytidbhdlhcmjhkaa
set_option maxRecDepth 4000
open Go.RowKit

/-- Those whose place has its bit. -/
def keptL (keep : Int) (i : Nat) : List WrD → List WrD
  | [] => []
  | x :: r => if i < 30 ∧ keepBit keep i = true then x :: keptL keep (i + 1) r else keptL keep (i + 1) r
theorem keepL_kept (keep : Int) : ∀ (c : List WrD) (i : Nat) (s : List (List UInt8)), keepL keep i s c = putL s (keptL keep i c)
  | [], _, _ => rfl
  | x :: r, i, s => by
    unfold keepL keptL
    by_cases h : i < 30 ∧ keepBit keep i = true
    · rw [if_pos h, if_pos h, keepL_kept keep r]; rfl
    · rw [if_neg h, if_neg h, keepL_kept keep r]
theorem keptL_mem (keep : Int) : ∀ (c : List WrD) (i : Nat) (x : WrD), x ∈ keptL keep i c → x ∈ c
  | [], _, _, h => h
  | y :: r, i, x, h => by
    unfold keptL at h
    split at h
    · rcases List.mem_cons.1 h with h | h
      · rw [h]; simp
      · exact List.mem_cons_of_mem _ (keptL_mem keep r _ x h)
    · exact List.mem_cons_of_mem _ (keptL_mem keep r _ x h)
theorem keptL_len (keep : Int) : ∀ (c : List WrD) (i : Nat), (keptL keep i c).length ≤ c.length
  | [], _ => Nat.le_refl _
  | y :: r, i => by
    have := keptL_len keep r (i + 1)
    unfold keptL
    split <;> simp only [List.length_cons] <;> omega
theorem keptL_append (keep : Int) : ∀ (c : List WrD) (i : Nat) (x : WrD), keptL keep i (c ++ [x]) = keptL keep i c ++ if i + c.length < 30 ∧ keepBit keep (i + c.length) = true then [x] else []
  | [], i, x => by
    show keptL keep i [x] = _
    simp [keptL]
  | y :: r, i, x => by
    have h := keptL_append keep r (i + 1) x
    have e : i + 1 + r.length = i + (y :: r).length := by simp; omega
    rw [e] at h
    rw [List.cons_append]
    unfold keptL
    rw [h]
    split <;> simp

end Go.Proofs.Ytidbhdlhcmjhkaa
