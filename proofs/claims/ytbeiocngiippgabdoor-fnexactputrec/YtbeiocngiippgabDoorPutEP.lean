/- Plain facts on a record's bytes. -/
import Derived.Test.YtbeiocngiippgabDoorPutRx
import Derived.Test.YtbeiocngiippgabDoorPutNil
import Derived.Test.YtbeiocngiippgabDoorTrodRec
namespace Go.Proofs.YtbeiocngiippgabDoor
set_option maxRecDepth 4000
open Go.RowKit

def headB (gen place kind : Int) : List UInt8 := [hiB gen, loB gen, hiB place, loB place, byB kind]
def bodyB (r : RecD) (h : List UInt8) : List UInt8 := if r.kind = 1 then putRowB h r.r else if r.kind = 2 then putText h r.key else if r.kind = 3 then h ++ [byB r.n] else h
def tailB (r : RecD) (b : List UInt8) : List UInt8 := b ++ [byB r.who, byB r.code] ++ [hiB r.seq, loB r.seq]
def summedB (b : List UInt8) : List UInt8 := b ++ [hiB ((sumOf b : Nat) : Int), loB ((sumOf b : Nat) : Int)]
def putRecB (gen place : Int) (r : RecD) : List UInt8 :=
  if (recOk r && inB gen 0 65535 && inB place 0 65535) = false then [] else summedB (tailB r (bodyB r (headB gen place r.kind)))
theorem bodyB_len (r : RecD) (h : List UInt8) : (bodyB r h).length ≤ h.length + 190 := by
  have h1 := putRowB_len h r.r
  have h2 := putText_len h r.key
  unfold bodyB
  split
  · omega
  · split
    · omega
    · split
      · simp
      · omega
theorem putRecB_len (gen place : Int) (r : RecD) : (putRecB gen place r).length ≤ 201 := by
  have h := bodyB_len r (headB gen place r.kind)
  have h0 : (headB gen place r.kind).length = 5 := rfl
  unfold putRecB
  split
  · simp
  · simp only [summedB, tailB, List.length_append, List.length_cons, List.length_nil]; omega
theorem putRec_wt (gen place : Int) (r : RecD) : wtB (putRecB gen place r) ≤ 1073741824 ∧ 1 + ctB (putRecB gen place r) ≤ 1073741824 := by
  have := putRecB_len gen place r
  unfold wtB ctB
  omega
theorem cuRec_wt (r : RecD) : cuRec r ≤ wtRec r := by simp only [cuRec, wtRec, cuRow, wtRow, cuCell, wtCell, ctB, wtB]; omega
/-- Where a row beside the box grew. -/
theorem bx_grow {T : TypeId} {w W w4 : World} {A : Array Value} {q g4 : Nat} (F : Bx T w A W) (hq : w.heap.size + 1 ≤ q) (hG : W.grownBy w4 (some q)) (hA : g4 = q ∨ g4 = W.heap.size) : w.heap.size + 1 ≤ g4 ∧ Bx T w A w4 := by
  have h1 := lt_of_block F.box
  refine ⟨by rcases hA with h | h <;> omega, ⟨F.bel.grown hG F.bel.size (fun k e => by simp at e; omega), (hG.block _ h1 (by simp; omega)).trans F.box⟩⟩
/-- Two words behind nothing. -/
theorem putWords2 (wb : Nat) (gen place : Int) (w : World) (hb : w.heap[wb]? = some (.cells #[.int .i64 gen, .int .i64 place] 3 (0, 0))) :
    Calls Tryd.prog 34 #[.slice none 0 0, .slice (some ⟨wb, 0, none⟩) 2 2] w fun e w' => ∃ g c, e = .returned (.slice (some ⟨g, 0, none⟩) 4 c) ∧ w.heap.size ≤ g ∧ Own w' g c [hiB gen, loB gen, hiB place, loB place] ∧ Below w.heap.size w w' := by
  refine (putWords_none wb 2 2 [gen, place] w rfl (by omega) (fun j hj => cellsA hb j ?_)).mono ?_
  · match j, hj with
    | 0, _ => rfl
    | 1, _ => rfl
  rintro e w' ⟨c, rfl, hO, hB⟩
  exact ⟨_, c, rfl, Nat.le_refl _, hO, hB⟩

end Go.Proofs.YtbeiocngiippgabDoor
