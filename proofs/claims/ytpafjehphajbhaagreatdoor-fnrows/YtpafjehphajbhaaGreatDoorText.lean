/- Contracts of Utf8Ok, Count and TextOf, in the specification and in the program. -/
import Derived.Test.YtpafjehphajbhaaGreatDoorSignsS
namespace Go.Proofs.YtpafjehphajbhaaGreatDoor
set_option maxRecDepth 4000
open Go.RowKit

structure OkOut (w : World) (t : List UInt8) (e : Ending) (w' : World) : Prop where
  out : ∃ (l : List Int) (ok : Bool), e = .returned (.bool ok) ∧ SignsAre t l ok ∧ Below w.heap.size w w'
structure CountOut (w : World) (t : List UInt8) (e : Ending) (w' : World) : Prop where
  out : ∃ (l : List Int) (ok : Bool), e = .returned (.int .i64 (l.length : Int)) ∧ SignsAre t l ok ∧ Below w.heap.size w w'

theorem textLen (l : List Int) : (l.flatMap signB).length ≤ 4 * l.length := by
  induction l with
  | nil => simp
  | cons n r ih => rw [List.flatMap_cons, List.length_append, List.length_cons]; have := signB_len n; omega
theorem text_snoc {l : List Int} {k : Nat} (h : k < l.length) {z : Int} (hz : l.getD k 0 = z) : (l.take (k + 1)).flatMap signB = (l.take k).flatMap signB ++ signB z := by
  have e : l[k] = z := by rw [← hz]; simp [List.getD, List.getElem?_eq_getElem h]
  rw [List.take_succ_eq_append_getElem h, List.flatMap_append, e]; simp

/-- A text, whatever new memory was made. -/
structure TextIs (w : World) (bs : List UInt8) (e : Ending) (w' : World) : Prop where
  out : e = .returned (.string ⟨bs.toArray⟩) ∧ Below w.heap.size w w'

/-- A list of numbers as TextOf gets it. -/
structure Nums (w : World) (ao : Option Addr) (len : Nat) (l : List Int) : Prop where
  size : l.length = len
  cell : ∀ k, k < len → ∃ b off, ao = some ⟨b, off, none⟩ ∧ w.cell? ⟨b, off + k, none⟩ = some (.int .i64 (l.getD k 0))

end Go.Proofs.YtpafjehphajbhaaGreatDoor
