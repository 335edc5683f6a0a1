/- Plain facts on the choice among the sets of long ago. -/
import Derived.Test.YtejlellhoamjgaaDoorScore
namespace Go.Proofs.YtejlellhoamjgaaDoor
set_option maxRecDepth 4000
open Go.RowKit

/-- The first numbers from 1 on. -/
def upto (k : Nat) : List Int := (List.range k).map fun i : Nat => (i : Int) + 1
theorem upto_succ (k : Nat) : upto (k + 1) = upto k ++ [(k : Int) + 1] := by
  unfold upto
  rw [List.range_succ, List.map_append]
  rfl
theorem upto_len (k : Nat) : (upto k).length = k := by simp [upto]

/-- A choice: the set, its score, whether there is one. -/
structure Best where
  set : Int
  most : Int
  found : Bool
/-- One set more. -/
def bestStep (bs : List UInt8) (s : Best) (cs : Int) : Best := if (decOk cs bs && (!s.found || decide (s.most < scoN cs bs))) = true then ⟨cs, scoN cs bs, true⟩ else s
/-- The choice among these sets. -/
def bestOf (bs : List UInt8) (l : List Int) : Best := l.foldl (bestStep bs) ⟨0, 0, false⟩
theorem bestOf_nil (bs : List UInt8) : bestOf bs [] = ⟨0, 0, false⟩ := rfl
theorem bestOf_snoc (bs : List UInt8) (l : List Int) (cs : Int) : bestOf bs (l ++ [cs]) = bestStep bs (bestOf bs l) cs := by
  unfold bestOf
  rw [List.foldl_append]
  rfl
theorem step_no {bs : List UInt8} {s : Best} {cs : Int} (h : decOk cs bs = false) : bestStep bs s cs = s := by
  unfold bestStep
  rw [h]
  rfl
theorem step_first {bs : List UInt8} {s : Best} {cs : Int} (h : decOk cs bs = true) (hf : s.found = false) : bestStep bs s cs = ⟨cs, scoN cs bs, true⟩ := by
  unfold bestStep
  rw [h, hf]
  rfl
theorem step_more {bs : List UInt8} {s : Best} {cs : Int} (h : decOk cs bs = true) (hm : s.most < scoN cs bs) : bestStep bs s cs = ⟨cs, scoN cs bs, true⟩ := by
  unfold bestStep
  rw [h, decide_eq_true hm, Bool.or_true]
  rfl
theorem step_less {bs : List UInt8} {s : Best} {cs : Int} (hf : s.found = true) (hm : ¬ s.most < scoN cs bs) : bestStep bs s cs = s := by
  unfold bestStep
  rw [hf, decide_eq_false hm]
  simp
/-- What is found among sets from 1 on is no 0. -/
theorem best_set (bs : List UInt8) (k : Nat) : ((bestOf bs (upto k)).found = false → (bestOf bs (upto k)).set = 0) ∧ ((bestOf bs (upto k)).found = true → 1 ≤ (bestOf bs (upto k)).set) := by
  induction k with
  | zero => exact ⟨fun _ => rfl, fun h => absurd (show false = true from h) (by decide)⟩
  | succ k ih =>
    rw [upto_succ, bestOf_snoc]
    unfold bestStep
    split
    · refine ⟨fun h => absurd h (by simp), fun _ => ?_⟩
      show (1 : Int) ≤ (k : Int) + 1
      omega
    · exact ih

end Go.Proofs.YtejlellhoamjgaaDoor
